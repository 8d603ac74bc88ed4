/- Walks of layer 1: Scan. -/
import Derived.Test.YtihbecfjgdlebaaLexCatch
namespace Go.Proofs.Ytihbecfjgdlebaa
open Go.RowKit
attribute [local go_sem] Oper.semAt_some

/-- The cells of a list of tokens. -/
def flat (l : List Lx.Tok) : List Value := l.flatMap fun t => [.int .i64 t.kind, .string ⟨t.text.toArray⟩, .int .i64 t.pos]
theorem slice_bytes (s : ByteArray) (i j : Nat) : (⟨(Lx.slice (bs s) i j).toArray⟩ : ByteArray) = s.extract i j := by
  rw [← bs_extract]; exact bs_inj (by simp [bs])
theorem flat_snoc (s : ByteArray) (pre : List Lx.Tok) (k i j : Nat) : flat (pre ++ [mkTok (bs s) k i j]) = flat pre ++ [.int .i64 k, .string (s.extract i j), .int .i64 i] := by
  rw [flat, List.flatMap_append]
  simp only [flat, mkTok, List.flatMap_cons, List.flatMap_nil, List.append_nil, slice_bytes]
/-- A slice value that owns these tokens, from block B on. -/
def Toks (B : Nat) (v : Value) (l : List Lx.Tok) (w : World) : Prop := w.ownsRow B 33 3 v l.length (flat l)
/-- What Scan hands back. -/
def ScanOut (s : ByteArray) (w : World) (e : Ending) (w' : World) : Prop :=
  Below w.heap.size w w' ∧ match Lx.scan (bs s) with
    | .toks l => ∃ v, e = .returned (.tuple #[v, .int .i64 0, .int .i64 0]) ∧ Toks w.heap.size v l w'
    | .bad i er => e = .returned (.tuple #[.slice none 0 0, .int .i64 i, .int .i64 er])

set_option maxRecDepth 100000 in
set_option maxHeartbeats 400000 in
theorem scan_big (n : Nat) (s : ByteArray) (w : World) (hs : s.size ≤ maxLen) (hb : 20000 < s.size) : CallsIn Fence.wide n Try.prog 14 #[.string s] w (ScanOut s w) := by
  have Hsc : Lx.scan (bs s) = .bad 0 2 := by unfold Lx.scan; rw [if_pos (by rw [bs_len]; exact hb)]
  have HS := Lib.hid Hsc; clear Hsc
  unfold maxLen at hs
  refine callsIn_wide.2 ?_
  go_enter Try.func14, Try.ntmps14
  go_wp2
  refine bodyPost_ret (v := .tuple #[.slice none 0 0, .int .i64 0, .int .i64 2]) (by simp [results, Try.results14, go_sem]) rfl ⟨?_, ?_⟩
  · exact ((((Below.refl _ w).alloc (Nat.le_refl _) _).alloc (by simp) _).alloc (by simp; omega) _)
  · rw [HS.out]; rfl

/-- Between two rounds: what Scan's variables hold. -/
def JS (w : World) (h D L : Nat) (r : Loop) (E : Nat) (pre : List Lx.Tok) (W : World) : Prop :=
  Below h w W ∧ E ≤ W.heap.size ∧ (L < E ∧ pre.length ≤ 6000) ∧ Boxed W (h + 1) 3 (.int .i64 0) ∧ Boxed W (h + 1 + 1) 24 (.int .i64 0) ∧ W.heap[D]? = some (.deferred (some [])) ∧ W.heap[L]? = some (.loop r) ∧ ∃ v, Boxed W h 23 v ∧ Toks E v pre W
/-- Where a refusal passes up. -/
def JX (w : World) (h D : Nat) (W : World) : Prop :=
  Below h w W ∧ Boxed W (h + 1) 3 (.int .i64 0) ∧ Boxed W (h + 1 + 1) 24 (.int .i64 0) ∧ W.heap[D]? = some (.deferred (some [])) ∧ ∃ v, Boxed W h 23 v ∧ v.oneCell' = true

theorem heap_lt {W : World} {k : Nat} {o : Obj} (h : W.heap[k]? = some o) : k < W.heap.size := (Array.getElem?_eq_some_iff.1 h).1
theorem boxed_below {W W' : World} {B : Nat} {t : TypeId} {v : Value} {n : Nat} (h : Boxed W B t v) (hb : Below n W W') (hn : B < n) : Boxed W' B t v := (hb.block B hn).trans h
theorem ownsRow_blocks {W W' : World} {base e size n : Nat} {v : Value} {xs : List Value} (h : W.ownsRow base e size v n xs) (hk : ∀ k, base ≤ k → k < W.heap.size → v.ownBlock = some k → W'.heap[k]? = W.heap[k]?) : W'.ownsRow base e size v n xs := by
  obtain ⟨h1, h2⟩ := h
  refine ⟨h1, ?_⟩
  rcases h2 with h2 | ⟨g, cap, cur, rfl, hg, hh, r⟩
  · exact .inl h2
  · exact .inr ⟨g, cap, cur, rfl, hg, (hk g hg (heap_lt hh) rfl).trans hh, r⟩
theorem ownsRow_below' {W W' : World} {base e size n : Nat} {v : Value} {xs : List Value} (h : W.ownsRow base e size v n xs) (hb : Below W.heap.size W W') : W'.ownsRow base e size v n xs :=
  ownsRow_blocks h fun k _ hk _ => hb.block k hk
theorem ownsRow_shape {W : World} {base e size n : Nat} {v : Value} {xs : List Value} (h : W.ownsRow base e size v n xs) : ∃ a cap, v = .slice a n cap := by
  rcases h.2 with ⟨rfl, rfl⟩ | ⟨g, cap, _, rfl, _⟩
  · exact ⟨none, 0, rfl⟩
  · exact ⟨_, _, rfl⟩

theorem JS.later {w : World} {h D L : Nat} {r : Loop} {E : Nat} {pre : List Lx.Tok} {W W' : World} (hDL : D < L) (hh : h + 1 + 1 < L) (hj : JS w h D L r E pre W) (hb : Below W.heap.size W W') : JS w h D L r E pre W' := by
  obtain ⟨j1, j2, j3, j4, j5, j6, j7, v, j8, j9⟩ := hj
  exact ⟨j1.trans (hb.mono (by omega)), Nat.le_trans j2 hb.size, j3, boxed_below j4 hb (by omega), boxed_below j5 hb (by omega), (hb.block D (by omega)).trans j6, (hb.block L (by omega)).trans j7, v, boxed_below j8 hb (by omega), ownsRow_below' j9 hb⟩
theorem JS.jx {w : World} {h D L : Nat} {r : Loop} {E : Nat} {pre : List Lx.Tok} {W : World} (hj : JS w h D L r E pre W) : JX w h D W := by
  obtain ⟨j1, j2, j3, j4, j5, j6, j7, v, j8, j9⟩ := hj
  obtain ⟨a, cap, rfl⟩ := ownsRow_shape j9
  exact ⟨j1, j4, j5, j6, _, j8, rfl⟩

theorem boxed_alloc {W : World} {B : Nat} {t : TypeId} {v : Value} (h : Boxed W B t v) (o : Obj) : Boxed (W.alloc o) B t v := h.alloc o
theorem boxed_put {W : World} {B b' : Nat} {t : TypeId} {v : Value} {o : Obj} (h : Boxed W B t v) (hne : B ≠ b') : Boxed (W.putObj b' o) B t v := (World.putObj_heap_other hne).trans h
theorem boxed_other {W : World} {B B' : Nat} {t : TypeId} {v u : Value} (h : Boxed W B t v) (hne : B ≠ B') : Boxed (W.setCell ⟨B', 0, none⟩ u) B t v := (Below.heap_setCell _ _ _ _ (by simp only; omega)).trans h
theorem below_put {w W : World} {n : Nat} (h : Below n w W) (b : Nat) (o : Obj) (hb : n ≤ b) : Below n w (W.putObj b o) :=
  ⟨h.os, h.tape, h.output, by rw [World.putObj_size]; exact h.size, fun k hk => (World.putObj_heap_other (by omega)).trans (h.block k hk)⟩
theorem ownsRow_base {W : World} {base base' e size n : Nat} {v : Value} {xs : List Value} (h : W.ownsRow base e size v n xs) (hb : base' ≤ base) : W.ownsRow base' e size v n xs := by
  obtain ⟨h1, h2⟩ := h
  refine ⟨h1, ?_⟩
  rcases h2 with h2 | ⟨g, cap, cur, rfl, hg, hh, r⟩
  · exact .inl h2
  · exact .inr ⟨g, cap, cur, rfl, by omega, hh, r⟩

theorem infoTok : (Try.prog.info? 33).map (fun i => (i.zero, i.size, i.bytes)) = some (some (.agg #[.int .i64 0, .string ⟨#[]⟩, .int .i64 0]), 3, 32) := by kernel_rfl
theorem cells3 (W : World) (a b c : Value) (t : TypeId) (n : Nat) (hn : n = W.heap.size) : ∀ (j : Nat) (u : Value), [a, b, c][j]? = some u → (W.alloc (.cells #[a, b, c] t)).cell? ((⟨n, 0, none⟩ : Addr).add j) = some u := by
  intro j u hj
  subst hn
  have hadd : (⟨W.heap.size, 0, none⟩ : Addr).add j = ⟨W.heap.size, j, none⟩ := by unfold Addr.add; split <;> simp_all
  rw [hadd, World.cell?_alloc_at _ _ _ _ rfl]
  simpa using hj
theorem ownBlock_lt {W : World} {base e size n : Nat} {v : Value} {xs : List Value} (h : W.ownsRow base e size v n xs) : ∀ g, v.ownBlock = some g → base ≤ g ∧ g < W.heap.size := by
  intro g hg
  rcases h.2 with ⟨rfl, _⟩ | ⟨g', cap, cur, rfl, hb, hh, _⟩
  · simp [Value.ownBlock] at hg
  · obtain rfl : g' = g := by simpa [Value.ownBlock] using hg
    exact ⟨hb, heap_lt hh⟩

set_option maxRecDepth 100000 in
set_option maxHeartbeats 400000 in
theorem scan_small (n : Nat) (hn : 3 ≤ n) (s : ByteArray) (w : World) (hs : s.size ≤ 20000) : CallsIn Fence.wide n Try.prog 14 #[.string s] w (ScanOut s w) := by
  have hmf : ∀ (fn : Fn) (first cap : Array Value) (w : World), (Instr.makeFunc fn first cap).run Try.prog w = .ok (.func fn first cap) w := fun _ _ _ _ => rfl
  have eg : ∀ args w, (callFunc 71 args).run Try.prog w = .ok (.enter 71 args) w := enters_of Try.func71 (by kernel_rfl) rfl
  have eg2 : ∀ args w, (callFunc 46 args).run Try.prog w = .ok (.enter 46 args) w := enters_of Try.func46 (by kernel_rfl) rfl
  have hn1 : 1 ≤ n := by omega
  refine callsIn_of_wpAt Try.func14 rfl ?_
  simp only [Try.ntmps14, List.size_toArray, List.length_cons, List.length_nil, Nat.reduceAdd, Nat.reduceSub, Array.replicate_succ, Array.replicate_zero, List.push_toArray, List.append_toArray, List.nil_append, List.cons_append]
  refine wpAt_seq (wpAt_of_wpIn ?_)
  gi_wp2
  refine wpAt_seq (wpAt_of_wpIn ?_)
  gi_wp2
  refine wpAt_seq (wpAt_of_wpIn ?_)
  gi_wp2
  refine wpAt_seq (wpAt_seq (wpAt_of_wpIn ?_))
  gi_wp2_with fail
  refine ⟨trivial, ((callsIn_wide (n := n - 1)).2 (clone_any s _ hs)).mono ?_⟩
  rintro e w1 ⟨rfl, hb1⟩
  have Hb1 := Lib.hid hb1; clear hb1
  gi_wp2_with fail
  refine ⟨trivial, ((callsIn_wide (n := n - 1)).2 (tokens_any s _)).mono ?_⟩
  rintro e w2 ⟨rfl, rfl⟩
  gi_wp2
  refine wpAt_block (wpAt_rangeFunc_fn (gf := 71) (lb := #[.pointer (some ⟨w1.heap.size, 0, none⟩)]) rfl eg ?_)
  intro r hr
  have hr1 : r.state = .ready := by rw [hr]
  have hr2 : r.pending = none := by rw [hr]
  have hr3 : r.params = #[13] := by rw [hr]
  have z1 := Hb1.out.size
  simp only [World.size_alloc] at z1
  have hB1 : Below w.heap.size w w1 := ((((Below.refl _ w).alloc (Nat.le_refl _) _).alloc (by simp) _).alloc (by simp; omega) _).trans (Hb1.out.mono (by simp; omega))
  obtain ⟨h, hh⟩ : ∃ h, w.heap.size = h := ⟨_, rfl⟩
  have bx0 : Boxed w1 h 23 (.slice none 0 0) := (Hb1.out.block h (by simp; omega)).trans (by rw [← hh]; exact heap3_1 w _ _ _)
  have bx1 : Boxed w1 (h + 1) 3 (.int .i64 0) := (Hb1.out.block (h + 1) (by simp; omega)).trans (by rw [← hh]; exact heap3_2 w _ _ _)
  have bx2 : Boxed w1 (h + 1 + 1) 24 (.int .i64 0) := (Hb1.out.block (h + 1 + 1) (by simp; omega)).trans (by rw [← hh]; exact heap3_3 w _ _ _)
  obtain ⟨T, hT⟩ : ∃ T, w1.heap.size = T := ⟨_, rfl⟩
  have hD : (w1.alloc (.cells #[.string s] 9)).heap.size = T + 1 := by simp [hT]
  have hcall : CallsIn Fence.wide (n - 1) Try.prog 71 #[.func (.yield (T + 1 + 1)) #[] #[], .pointer (some ⟨T, 0, none⟩)] (((w1.alloc (.cells #[.string s] 9)).alloc (.deferred (some []))).alloc (.loop r))
      (IterOut s (JS w h (T + 1) (T + 1 + 1) r) (JX w h (T + 1))) := by
    refine iter_in (n - 1) (by omega) s T (T + 1 + 1) hs (JS w h (T + 1) (T + 1 + 1) r) (JX w h (T + 1)) (fun k => k = h ∨ k = T + 1 + 1) _ ?_ ?_ ?_ ?_ ?_ ?_ ?_
    · rintro k (rfl | rfl) <;> simp [hT]; omega
    · rintro (e | e) <;> omega
    · exact fun E pre w w' hj hb => hj.later (by omega) (by omega) hb
    · exact fun E pre w w' hj hb => (hj.later (by omega) (by omega) hb).jx
    · intro E pre w0 W k i j hj hWE hE0 hb htok
      have hJ := hj.later (by omega) (by omega) hb
      obtain ⟨R, hR⟩ : ∃ R, RoundOut s (JS w h (T + 1) (T + 1 + 1) r) (JX w h (T + 1)) (fun k => k = h ∨ k = T + 1 + 1) E w0.heap.size pre k i j W = R := ⟨_, rfl⟩
      rw [hR]
      have HR := Lib.hid hR; clear hR
      obtain ⟨j1, j2, ⟨j3, jlen⟩, j4, j5, j6, j7, _⟩ := hJ
      obtain ⟨_, _, _, _, _, _, _, v, i8, i9⟩ := hj
      obtain ⟨a, cap, rfl⟩ := ownsRow_shape i9
      have j8 := boxed_below i8 hb i8.lt
      have j9 : Toks E (.slice a pre.length cap) pre W := ownsRow_below' i9 hb
      have hrow0 := ownBlock_lt i9
      have hkp := hb.size
      refine ⟨_, _, _, _, run_yield (P := Try.prog) j7 (by rw [hr3]; rfl), ?_⟩
      have hr4 : r.fn = 14 := by rw [hr]
      have hrs := hr1
      rw [hr4]
      refine roundIn_of_wpIn_p trivial Try.func14 ?_
      simp only [hr]
      have HRQ := Lib.hid (show ({ r with state := .ready, pending := none } : Loop) = r from by rw [hr])
      clear hr hr1 hr2 hr3 hr4
      unfold tokV
      gi_wp2
      refine ⟨_, run_beginRound (r := r) ((Below.heap_alloc _ _ _ (heap_lt j7)).trans j7) hrs, ?_⟩
      obtain ⟨W2, hW2⟩ : ∃ W2, (W.alloc (.cells #[.int .i64 k, .string (s.extract i j), .int .i64 i] 33)).putObj (T + 1 + 1) (.loop { r with state := .busy }) = W2 := ⟨_, rfl⟩
      have ltL := heap_lt j7
      have m7 : W2.heap[T + 1 + 1]? = some (.loop { r with state := .busy }) := by rw [← hW2]; exact World.putObj_heap_same (by rw [World.size_alloc]; omega)
      have ko : ∀ b, b < W.heap.size → b ≠ T + 1 + 1 → W2.heap[b]? = W.heap[b]? := fun b hb1 hb2 => by
        rw [← hW2]; exact (World.putObj_heap_other hb2).trans (Below.heap_alloc _ _ _ hb1)
      have mz : W2.heap.size = W.heap.size + 1 := by rw [← hW2, World.putObj_size, World.size_alloc]
      have mt : W2.heap[W.heap.size]? = some (.cells #[.int .i64 k, .string (s.extract i j), .int .i64 i] 33 (0, 0)) := by
        rw [← hW2]; exact (World.putObj_heap_other (by omega)).trans (World.alloc_heap_new _ _)
      have mb : Below h w W2 := by rw [← hW2]; exact below_put (j1.alloc (by have := j1.size; omega) _) _ _ (by omega)
      rw [hW2]
      have m4 : Boxed W2 (h + 1) 3 (.int .i64 0) := (ko _ (by omega) (by omega)).trans j4
      have m5 : Boxed W2 (h + 1 + 1) 24 (.int .i64 0) := (ko _ (by omega) (by omega)).trans j5
      have m6 := (ko (T + 1) (by omega) (by omega)).trans j6
      have m8 : Boxed W2 h 23 (.slice a pre.length cap) := (ko _ (by omega) (by omega)).trans j8
      have m9 : Toks E (.slice a pre.length cap) pre W2 := ownsRow_blocks j9 fun b hb1 hb2 _ => ko b hb2 (by omega)
      have t0 : W2.cell? ⟨W.heap.size, 0, none⟩ = some (.int .i64 k) := cell_of_row _ _ _ _ _ _ mt
      have t1 : W2.cell? ⟨W.heap.size, 1, none⟩ = some (.string (s.extract i j)) := cell_of_row _ _ _ _ _ _ mt
      have t2 : W2.cell? ⟨W.heap.size, 2, none⟩ = some (.int .i64 i) := cell_of_row _ _ _ _ _ _ mt
      have c0 := m8.cell
      have f0 := m8.frozen
      have koH := Lib.hid ko
      clear hW2 ko mt
      have hij := Lx.tokAt_lt htok
      rw [bs_len] at hij
      have Htok := Lib.hid htok
      clear htok hb hE0 hWE hD i8 i9
      by_cases h6 : pre.length = 6000
      · have h6' : ((pre.length : Int) == 6000) = true := by rw [h6]; rfl
        have H6 := Lib.hid h6; clear h6
        gi_wp2
        refine ⟨rfl, ?_⟩
        rw [← HR.out]
        exact .inr ⟨2, rfl, ⟨mb, m4, m5, m6, _, m8, rfl⟩, .inl ⟨H6.out, rfl⟩⟩
      · have h6' : ((pre.length : Int) == 6000) = false := by rw [beq_eq_false_iff_ne]; omega
        by_cases h40 : 40 < j - i
        · have h40' : (40 : Int) < ((j - i : Nat) : Int) := by omega
          gi_wp2
          refine ⟨rfl, ?_⟩
          rw [← HR.out]
          exact .inr ⟨11, rfl, ⟨mb, m4, m5, m6, _, m8, rfl⟩, .inr ⟨h6, h40, rfl⟩⟩
        · have h40' : ¬ (40 : Int) < ((j - i : Nat) : Int) := by omega
          obtain ⟨i0, hi0, hz0, hz1, hz2⟩ := info_parts infoTok
          have m9' : Hid (W2.ownsRow E 33 3 (.slice a pre.length cap) pre.length (flat pre)) := m9
          have hz3 := Lib.hid mz
          clear mz
          gi_wp2_with (gi_at_builtin; refine wpListIn_append_own _ rfl _ _ 23 rfl E 33 i0 _ 3 32 Try.underlying23 hi0 hz0 hz1 hz2 rfl (by decide) _ _ _ rfl (m9'.out.alloc _) ⟨W2.heap.size, 0, none⟩ 1 1 [.int .i64 k, .string (s.extract i j), .int .i64 i] (by rw [hz3.out]; rfl) rfl (cells3 W2 _ _ _ _ _ rfl) (by simp [Value.oneCell']) (by unfold maxLen; omega) (by omega) (by simp only [World.size_alloc]; have := hz3.out; omega) ?_; intro v' w3 hown' hgrow _; obtain ⟨g, cap', rfl⟩ := ownsRow_succ hown'; have hv1 : Boxed w3 h 23 (.slice a pre.length cap) := (boxed_alloc m8 _).kept hgrow (m8.not_row (by decide) m9); have hvc := hv1.cell; have hvf := hv1.frozen; have Hown := Lib.hid hown'; have Hgrow : Hid ((W2.alloc (.cells #[.int .i64 k, .string (s.extract i j), .int .i64 i] 33)).grownBy w3 (Value.slice a pre.length cap).ownBlock) := hgrow; clear hown' hgrow)
          have hsz := hz3.out
          have gl : ∀ b, b < W2.heap.size → (∀ g0, (Value.slice a pre.length cap).ownBlock = some g0 → b ≠ g0) → w3.heap[b]? = W2.heap[b]? := fun b hb1 hb2 =>
            (Hgrow.out.block b (by rw [World.size_alloc]; omega) (fun e => hb2 b e.symm rfl)).trans (Below.heap_alloc _ _ _ hb1)
          have gE : ∀ b, b < E → ∀ g0, (Value.slice a pre.length cap).ownBlock = some g0 → b ≠ g0 := fun b hb1 g0 hg0 => by have := (hrow0 g0 hg0).1; omega
          have l3 : w3.heap[T + 1 + 1]? = some (.loop { r with state := .busy }) := (gl _ (by omega) (gE _ (by omega))).trans m7
          obtain ⟨W5, hW5⟩ : ∃ W5, w3.setCell ⟨h, 0, none⟩ (.slice (some ⟨g, 0, none⟩) (pre.length + 1) cap') = W5 := ⟨_, rfl⟩
          have so : ∀ b, b ≠ h → W5.heap[b]? = w3.heap[b]? := fun b hb1 => by rw [← hW5]; exact Below.heap_setCell _ _ _ _ hb1
          have sz : W5.heap.size = w3.heap.size := by rw [← hW5]; simp [World.setCell]
          have gz : W2.heap.size + 1 ≤ w3.heap.size := by have := Hgrow.out.size; rwa [World.size_alloc] at this
          have l5 : W5.heap[T + 1 + 1]? = some (.loop { r with state := .busy }) := (so _ (by omega)).trans l3
          have b5 : Boxed W5 h 23 (.slice (some ⟨g, 0, none⟩) (pre.length + 1) cap') := by rw [← hW5]; exact hv1.set _
          have o5 : W5.ownsRow E 33 3 (.slice (some ⟨g, 0, none⟩) (pre.length + 1) cap') (pre.length + 1) (flat pre ++ [.int .i64 k, .string (s.extract i j), .int .i64 i]) := by
            rw [← hW5]; exact Hown.out.kept (grownBy_setCell' w3 h _) (.inr (hv1.not_row (by decide) Hown.out).symm)
          have bl5 : Below h w W5 := by
            rw [← hW5]
            exact ((mb.alloc (by have := mb.size; omega) _).grown Hgrow.out (by rw [World.size_alloc]; omega) (fun b hb1 => by have := (hrow0 b hb1).1; omega)).setCell (p := ⟨h, 0, none⟩) (Nat.le_refl _) _
          rw [hW5]
          refine ⟨_, _, run_endRound none l5, ?_⟩
          have HQ := HRQ.out
          have e0 : ({ ({ r with state := .busy } : Loop) with state := .ready, pending := none } : Loop) = r := HQ
          simp only [Option.isNone_none, if_true]
          rw [e0, ← HR.out]
          have po : ∀ b, b ≠ T + 1 + 1 → (W5.putObj (T + 1 + 1) (.loop r)).heap[b]? = W5.heap[b]? := fun b hb1 => World.putObj_heap_other hb1
          refine .inl ⟨rfl, ⟨below_put bl5 _ _ (by omega), by rw [World.putObj_size]; omega, ⟨j3, by rw [List.length_append]; simp only [List.length_singleton]; omega⟩, ?_, ?_, ?_, World.putObj_heap_same (by omega), _, boxed_put b5 (by omega), ?_⟩, ⟨by rw [World.putObj_size]; omega, fun b hb1 hb2 hb3 => ?_⟩, h6, h40⟩
          · exact (po _ (by omega)).trans ((so _ (by omega)).trans ((gl _ (by omega) (gE _ (by omega))).trans m4))
          · exact (po _ (by omega)).trans ((so _ (by omega)).trans ((gl _ (by omega) (gE _ (by omega))).trans m5))
          · exact (po _ (by omega)).trans ((so _ (by omega)).trans ((gl _ (by omega) (gE _ (by omega))).trans m6))
          · have ht : flat (pre ++ [mkTok (bs s) k i j]) = flat pre ++ [.int .i64 k, .string (s.extract i j), .int .i64 i] := flat_snoc s pre k i j
            unfold Toks
            rw [ht, List.length_append]
            exact ownsRow_blocks o5 fun b hb1 hb2 _ => po b (by omega)
          · have n1 : b ≠ T + 1 + 1 := fun e => hb3 (.inr e)
            have n2 : b ≠ h := fun e => hb3 (.inl e)
            refine (po _ n1).trans ((so _ n2).trans ((gl _ (by omega) ?_).trans (koH.out b hb1 n1)))
            rcases hb2 with hb2 | hb2
            · exact gE b hb2
            · exact fun g0 hg0 => by have := (hrow0 g0 hg0).2; omega
    · exact (World.cell?_alloc_past _ _ _ (by simp [hT]; omega)).trans ((World.cell?_alloc_past _ _ _ (by simp [hT])).trans ((World.cell?_alloc_at _ _ _ _ hT.symm).trans rfl))
    · intro W' hb
      have hb' : Below h w W' := by rw [← hh]; exact hB1.trans ((((((Below.refl _ w1).alloc (Nat.le_refl _) _).alloc (by simp only [World.size_alloc]; omega) _).alloc (by simp only [World.size_alloc]; omega) _).mono (by omega)).trans (hb.mono (by simp only [World.size_alloc]; omega)))
      have hk : ∀ k o, w1.heap[k]? = some o → W'.heap[k]? = some o := fun k o hko => (hb.block k (by have := heap_lt hko; simp only [World.size_alloc]; omega)).trans
        (((Below.heap_alloc _ _ k (by have := heap_lt hko; simp only [World.size_alloc]; omega)).trans ((Below.heap_alloc _ _ k (by have := heap_lt hko; simp only [World.size_alloc]; omega)).trans (Below.heap_alloc _ _ k (heap_lt hko)))).trans hko)
      have hz := hb.size
      simp only [World.size_alloc, hT] at hz
      exact ⟨hb', Nat.le_refl _, ⟨by omega, by simp⟩, hk _ _ bx1, hk _ _ bx2, (hb.block (T + 1) (by simp only [World.size_alloc, hT]; omega)).trans (by rw [← hT]; exact heap3_2 w1 _ _ _), (hb.block (T + 1 + 1) (by simp only [World.size_alloc, hT]; omega)).trans (by rw [← hT]; exact heap3_3 w1 _ _ _), _, hk _ _ bx0, World.ownsRow_nil _ _ _ _⟩
  rw [hD, hT, hh]
  refine hcall.mono ?_
  rintro e w' (⟨v, E, pre, rfl, hsc, hJ⟩ | ⟨i, er, rfl, hsc, hx⟩)
  · obtain ⟨j1, j2, ⟨j3, jlen⟩, j4, j5, j6, j7, v, j8, j9⟩ := hJ
    refine ⟨none, w'.putObj (T + 1 + 1) (.loop { r with state := .exhausted }), ?_, ?_⟩
    · refine (run_endLoop (P := Try.prog) j7 (by rw [hr1]; simp)).trans ?_
      rw [hr2]
    · obtain ⟨W4, hW4⟩ : ∃ W4, w'.putObj (T + 1 + 1) (.loop { r with state := .exhausted }) = W4 := ⟨_, rfl⟩
      have ko : ∀ k, k ≠ T + 1 + 1 → W4.heap[k]? = w'.heap[k]? := fun k hk => by rw [← hW4]; exact World.putObj_heap_other hk
      have kz : W4.heap.size = w'.heap.size := by rw [← hW4]; exact World.putObj_size
      have kb : Below h w W4 := by rw [← hW4]; exact ⟨j1.os, j1.tape, j1.output, by rw [World.putObj_size]; exact j1.size, fun k hk => (World.putObj_heap_other (by omega)).trans (j1.block k hk)⟩
      rw [hW4]
      clear hW4
      have k4 : Boxed W4 (h + 1) 3 (.int .i64 0) := (ko _ (by omega)).trans j4
      have k5 : Boxed W4 (h + 1 + 1) 24 (.int .i64 0) := (ko _ (by omega)).trans j5
      have k8 : Boxed W4 h 23 v := (ko _ (by omega)).trans j8
      have k9 : Toks E v pre W4 := ownsRow_blocks j9 fun k hk _ _ => ko k (by omega)
      have k6 := (ko (T + 1) (by omega)).trans j6
      obtain ⟨a, cap, rfl⟩ := ownsRow_shape k9
      have c0 := k8.cell
      have c1 := k4.cell
      have c2 := k5.cell
      have f0 := k8.frozen
      have f1 := k4.frozen
      have f2 := k5.frozen
      clear hcall ko j1 j2 j4 j5 j6 j7 j8 j9 bx0 bx1 bx2 hB1
      refine wpAt_of_wpIn (n := n) ?_
      dsimp only [List.cons_append, List.nil_append]
      gi_wp2
      refine ⟨by simp, .inl ⟨_, _, rfl, run_takeDeferred (((Below.heap_setCell _ _ _ _ (by simp only; omega)).trans ((Below.heap_setCell _ _ _ _ (by simp only; omega)).trans (Below.heap_setCell _ _ _ _ (by simp only; omega)))).trans k6), ?_⟩⟩
      refine ⟨by simp, .inr ⟨fun _ => hn1, _, _, _, _, rfl, by simp [invoke, go_sem, eg2], fun _ _ => trivial, (catch_idle (n - 1) h _).mono ?_⟩⟩
      rintro e u' F ⟨rfl, rfl, hF⟩
      have q0 : Boxed F h 23 (.slice a pre.length cap) := by
        rw [hF]
        exact boxed_alloc (boxed_put (boxed_other (boxed_other (k8.set _) (by omega)) (by omega)) (by omega)) _
      have q1 : Boxed F (h + 1) 3 (.int .i64 0) := by
        rw [hF]
        exact boxed_alloc (boxed_put (boxed_other (Boxed.set _ (boxed_other k4 (by omega))) (by omega)) (by omega)) _
      have q2 : Boxed F (h + 1 + 1) 24 (.int .i64 0) := by
        rw [hF]
        exact boxed_alloc (boxed_put (Boxed.set _ (boxed_other (boxed_other k5 (by omega)) (by omega))) (by omega)) _
      have q3 : Toks E (.slice a pre.length cap) pre F := by
        rw [hF]
        refine ownsRow_blocks k9 fun k hk hl _ => ?_
        exact (Below.heap_alloc _ _ k (by simpa [World.setCell] using hl)).trans ((World.putObj_heap_other (by omega)).trans ((Below.heap_setCell _ _ _ _ (by simp only; omega)).trans ((Below.heap_setCell _ _ _ _ (by simp only; omega)).trans (Below.heap_setCell _ _ _ _ (by simp only; omega)))))
      have q4 : Below h w F := by
        rw [hF]
        have kbs := kb.size
        refine Below.alloc ?_ (by simp [World.setCell]; omega) _
        exact below_put (((kb.setCell (p := ⟨h, 0, none⟩) (Nat.le_refl _) _).setCell (p := ⟨h + 1, 0, none⟩) (by simp) _).setCell (p := ⟨h + 1 + 1, 0, none⟩) (by simp only; omega) _) _ _ (by omega)
      have c0' := q0.cell
      have c1' := q1.cell
      have c2' := q2.cell
      refine ⟨.tuple #[.slice a pre.length cap, .int .i64 0, .int .i64 0], by simp [results, Try.results14, go_sem, c0', c1', c2'], ?_⟩
      refine ⟨hh ▸ q4, ?_⟩
      rw [hsc]
      exact ⟨_, rfl, ownsRow_base q3 (by omega)⟩
  · obtain ⟨j1, k4, k5, k6, v, k8, hv⟩ := hx
    have lt5 := k5.lt
    refine ⟨by simp, .inl ⟨_, _, rfl, run_takeDeferred k6, ?_⟩⟩
    have k4' := boxed_put (b' := T + 1) (o := .deferred none) k4 (by omega)
    have k5' := boxed_put (b' := T + 1) (o := .deferred none) k5 (by omega)
    have k8' := boxed_put (b' := T + 1) (o := .deferred none) k8 (by omega)
    refine ⟨by simp, .inr ⟨fun _ => hn1, _, _, _, _, rfl, by simp [invoke, go_sem, eg2], fun _ _ => trivial, (catch_panic (n - 1) h i er [] v 0 0 _ k8'.cell k4'.cell k5'.cell k8'.frozen k4'.frozen k5'.frozen hv).mono ?_⟩⟩
    rintro e u' F ⟨rfl, rfl, hb, c0, c1, c2⟩
    refine ⟨.tuple #[.slice none 0 0, .int .i64 i, .int .i64 er], by simp [results, Try.results14, go_sem, c0, c1, c2], ?_⟩
    refine ⟨hh ▸ (below_put j1 _ _ (by omega)).trans hb, ?_⟩
    rw [hsc]

/-- What Scan does, for every text. -/
theorem scan_any (s : ByteArray) (w : World) (hs : s.size ≤ maxLen) : Calls Try.prog 14 #[.string s] w (ScanOut s w) := by
  refine (callsIn_wide (n := 3)).1 ?_
  by_cases h : 20000 < s.size
  · exact scan_big 3 s w hs h
  · exact scan_small 3 (by omega) s w (by omega)
end Go.Proofs.Ytihbecfjgdlebaa
