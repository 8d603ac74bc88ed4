/- Walks of layer 1: Strip. -/
import Derived.Test.YtihbecfjgdlebaaLexColl
import Derived.Test.YtihbecfjgdlebaaLexComP
import Derived.Test.YtihbecfjgdlebaaLexWrite
namespace Go.Proofs.Ytihbecfjgdlebaa
open Go.RowKit
attribute [local go_sem] Oper.semAt_some

theorem isBuilder_keep {T e : TypeId} {B b : Nat} {xs : List Value} {w w' : World} (h : Lib.IsBuilder T e B b xs w) (hb : w'.heap[b]? = w.heap[b]?) (hr : ∀ (k : Nat) (c : Array Value), w.heap[k]? = some (Obj.cells c e (0, 0)) → w'.heap[k]? = w.heap[k]?) : Lib.IsBuilder T e B b xs w' := by
  have key : ∀ p, Lib.BuilderAt T e B b p xs w → Lib.BuilderAt T e B b p xs w' := by
    rintro p ⟨h1, v, h2, h3, h4⟩
    refine ⟨h1, v, hb.trans h2, ⟨h3.1, ?_⟩, h4⟩
    rcases h3.2 with h3 | ⟨g, cap, cur, rfl, hg, hh, r⟩
    · exact .inl h3
    · exact .inr ⟨g, cap, cur, rfl, hg, (hr g _ hh).trans hh, r⟩
  exact h.elim (fun h => .inl (key _ h)) (fun h => .inr (key _ h))
theorem strCells_extract (s : ByteArray) (i j : Nat) : Lib.strCells (s.extract i j) = Lib.byteCells (Lx.slice (bs s) i j) := by
  rw [← bs_extract]; rfl
theorem extract_le (s : ByteArray) (i j : Nat) : (s.extract i j).size ≤ j - i := by
  rw [ByteArray.size_extract]; omega
theorem slice_len_le (l : Lx.Bs) (i j : Nat) : (Lx.slice l i j).length ≤ j - i := by
  unfold Lx.slice; rw [List.length_take]; omega

/-- What is known of a text's part that is left so far. -/
def StrOk (s : ByteArray) (pre : List (Nat × Nat)) : Prop := (Lx.stripF (bs s) pre).1.length ≤ (Lx.stripF (bs s) pre).2 ∧ (Lx.stripF (bs s) pre).2 ≤ s.size
theorem stripF_le {l : Lx.Bs} {pre : List (Nat × Nat)} {i : Nat} (h : ComsTo pre i) : (Lx.stripF l pre).2 ≤ i := by
  rcases List.eq_nil_or_concat pre with rfl | ⟨p, c, rfl⟩
  · exact Nat.zero_le _
  · rw [List.concat_eq_append] at h ⊢
    rw [Lx.stripF_snoc]
    have := (h.2 c (by simp)).2
    simp only
    omega
theorem StrOk.nil (s : ByteArray) : StrOk s [] := ⟨Nat.le_refl _, Nat.zero_le _⟩
theorem StrOk.snoc {s : ByteArray} {pre : List (Nat × Nat)} {i E : Nat} (h : StrOk s pre) (hi : (Lx.stripF (bs s) pre).2 ≤ i) (hE : i ≤ E) (hEs : E ≤ s.size) : StrOk s (pre ++ [(i, E)]) := by
  unfold StrOk
  rw [Lx.stripF_snoc]
  refine ⟨?_, hEs⟩
  simp only [List.length_append]
  have := slice_len_le (bs s) (Lx.stripF (bs s) pre).2 i
  have := h.1
  omega
/-- Between two rounds of Strip. -/
def JT (s : ByteArray) (w : World) (h T : Nat) (r : Loop) (pre : List (Nat × Nat)) (W : World) : Prop :=
  Below h w W ∧ T + 1 + 1 < W.heap.size ∧ W.heap[T]? = some (.cells #[.string s] 9 (0, 0)) ∧ W.heap[T + 1]? = some (.deferred (some [])) ∧ W.heap[T + 1 + 1]? = some (.loop r) ∧
    W.heap[h]? = some (.cells #[.string s] 9 (0, 0)) ∧ W.heap[h + 1 + 1]? = some (.cells #[.int .i64 (Lx.stripF (bs s) pre).2] 3 (0, 0)) ∧
    Lib.IsBuilder 83 5 (h + 1) (h + 1) (Lib.byteCells (Lx.stripF (bs s) pre).1) W ∧ StrOk s pre

set_option maxRecDepth 100000 in
set_option maxHeartbeats 2000000 in
theorem strip_in (n : Nat) (hn : 4 ≤ n) (s : ByteArray) (w : World) (hs : s.size ≤ 140737488355328) :
    CallsIn Fence.wide n Try.prog 44 #[.string s] w fun e w' => e = .returned (.string ⟨(leftOf (bs s) (coms (bs s))).toArray⟩) ∧ Below w.heap.size w w' := by
  have eg : ∀ args w, (callFunc 91 args).run Try.prog w = .ok (.enter 91 args) w := enters_of Try.func91 (by kernel_rfl) rfl
  have hn1 : 1 ≤ n := by omega
  refine callsIn_of_wpAt Try.func44 rfl ?_
  simp only [Try.ntmps44, List.size_toArray, List.length_cons, List.length_nil, Nat.reduceAdd, Nat.reduceSub, Array.replicate_succ, Array.replicate_zero, List.push_toArray, List.append_toArray, List.nil_append, List.cons_append]
  refine wpAt_seq (wpAt_of_wpIn ?_)
  gi_wp2
  refine wpAt_seq (wpAt_of_wpIn ?_)
  gi_wp2
  refine wpAt_seq (wpAt_of_wpIn ?_)
  gi_wp2
  refine wpAt_seq (wpAt_seq (wpAt_of_wpIn ?_))
  gi_wp2_with fail
  refine ⟨trivial, ((callsIn_wide (n := n - 1)).2 (comments_any s _)).mono ?_⟩
  rintro e w2 ⟨rfl, rfl⟩
  gi_wp2
  refine wpAt_block (wpAt_rangeFunc_fn (gf := 91) (lb := #[.pointer (some ⟨w.heap.size + 1 + 1 + 1, 0, none⟩)]) rfl eg ?_)
  intro r hr
  have hr1 : r.state = .ready := by rw [hr]
  have hr2 : r.pending = none := by rw [hr]
  have hr3 : r.params = #[8] := by rw [hr]
  obtain ⟨h, hh⟩ : ∃ h, w.heap.size = h := ⟨_, rfl⟩
  obtain ⟨w3, hw3⟩ : ∃ w3, (((w.alloc (Obj.cells #[Value.string s] 9)).alloc (Obj.cells #[Value.pointer none, Value.slice none 0 0] 83)).alloc (Obj.cells #[Value.int IntKind.i64 0] 3)).alloc (Obj.cells #[Value.string s] 9) = w3 := ⟨_, rfl⟩
  have z3 : w3.heap.size = h + 1 + 1 + 1 + 1 := by rw [← hw3]; simp [hh]
  have b0 : w3.heap[h]? = some (.cells #[.string s] 9 (0, 0)) := by
    rw [← hw3, ← hh]; exact (Below.heap_alloc _ _ _ (by simp only [World.size_alloc]; omega)).trans ((Below.heap_alloc _ _ _ (by simp only [World.size_alloc]; omega)).trans ((Below.heap_alloc _ _ _ (by simp only [World.size_alloc]; omega)).trans (World.alloc_heap_new _ _)))
  have b1 : w3.heap[h + 1]? = some (.cells #[.pointer none, .slice none 0 0] 83 (0, 0)) := by
    rw [← hw3, ← hh]; exact (Below.heap_alloc _ _ _ (by simp only [World.size_alloc]; omega)).trans ((Below.heap_alloc _ _ _ (by simp only [World.size_alloc]; omega)).trans (by have := World.alloc_heap_new (w.alloc (Obj.cells #[Value.string s] 9)) (Obj.cells #[Value.pointer none, Value.slice none 0 0] 83); rwa [World.size_alloc] at this))
  have b2 : w3.heap[h + 1 + 1]? = some (.cells #[.int .i64 0] 3 (0, 0)) := by
    rw [← hw3, ← hh]; exact (Below.heap_alloc _ _ _ (by simp only [World.size_alloc]; omega)).trans (by have := World.alloc_heap_new ((w.alloc (Obj.cells #[Value.string s] 9)).alloc (Obj.cells #[Value.pointer none, Value.slice none 0 0] 83)) (Obj.cells #[Value.int IntKind.i64 0] 3); simp only [World.size_alloc] at this; exact this)
  have b3 : w3.heap[h + 1 + 1 + 1]? = some (.cells #[.string s] 9 (0, 0)) := by
    rw [← hw3, ← hh]; have := World.alloc_heap_new (((w.alloc (Obj.cells #[Value.string s] 9)).alloc (Obj.cells #[Value.pointer none, Value.slice none 0 0] 83)).alloc (Obj.cells #[Value.int IntKind.i64 0] 3)) (Obj.cells #[Value.string s] 9); simp only [World.size_alloc] at this; exact this
  have hB3 : Below h w w3 := by
    rw [← hw3, ← hh]; exact ((((Below.refl _ w).alloc (Nat.le_refl _) _).alloc (by simp) _).alloc (by simp only [World.size_alloc]; omega) _).alloc (by simp only [World.size_alloc]; omega) _
  obtain ⟨T, hT⟩ : ∃ T, h + 1 + 1 + 1 = T := ⟨_, rfl⟩
  rw [hw3, hh]
  rw [hT] at b3 z3 ⊢
  clear hw3
  have hcall : CallsIn Fence.wide (n - 1) Try.prog 91 #[.func (.yield (T + 1 + 1)) #[] #[], .pointer (some ⟨T, 0, none⟩)] ((w3.alloc (.deferred (some []))).alloc (.loop r))
      (fun e w' => (∃ v, e = .returned v) ∧ JT s w h T r (coms (bs s)) w') := by
    refine coms_in (n - 1) (by omega) s T (T + 1 + 1) (by unfold maxLen; omega) (JT s w h T r) _ (fun pre w' hj => by rw [cell_of_row _ _ _ _ _ _ hj.2.2.1]; rfl) ?_ ?_
    · intro pre W i hJ hi h37 hpr hie hel
      obtain ⟨R, hR⟩ : ∃ R : Ending → World → Prop, (fun e w' => e = .returned (.bool true) ∧ JT s w h T r (pre ++ [(i, Lx.lineTo (bs s) i)]) w') = R := ⟨_, rfl⟩
      rw [hR]
      have HR := Lib.hid hR; clear hR
      obtain ⟨E, hE⟩ : ∃ E, Lx.lineTo (bs s) i = E := ⟨_, rfl⟩
      rw [hE] at hie hel HR ⊢
      clear hE h37
      obtain ⟨j1, j2, j3, j4, j5, j6, j7, j8, j9⟩ := hJ
      have hle := stripF_le (l := bs s) hpr
      refine ⟨_, _, _, _, run_yield (P := Try.prog) j5 (by rw [hr3]; rfl), ?_⟩
      have hr4 : r.fn = 44 := by rw [hr]
      have hrs := hr1
      rw [hr4]
      refine roundIn_of_wpIn_p trivial Try.func44 ?_
      simp only [hr]
      have HRQ := Lib.hid (show ({ r with state := .ready, pending := none } : Loop) = r from by rw [hr])
      clear hr hr1 hr2 hr3 hr4
      unfold comV
      gi_wp2
      refine ⟨_, run_beginRound (r := r) ((Below.heap_alloc _ _ _ (heap_lt j5)).trans j5) hrs, ?_⟩
      obtain ⟨W2, hW2⟩ : ∃ W2, (W.alloc (.cells #[.int .i64 i, .int .i64 E] 55)).putObj (T + 1 + 1) (.loop { r with state := .busy }) = W2 := ⟨_, rfl⟩
      have m5 : W2.heap[T + 1 + 1]? = some (.loop { r with state := .busy }) := by rw [← hW2]; exact World.putObj_heap_same (by rw [World.size_alloc]; omega)
      have ko : ∀ b, b < W.heap.size → b ≠ T + 1 + 1 → W2.heap[b]? = W.heap[b]? := fun b hb1 hb2 => by
        rw [← hW2]; exact (World.putObj_heap_other hb2).trans (Below.heap_alloc _ _ _ hb1)
      have mz : W2.heap.size = W.heap.size + 1 := by rw [← hW2, World.putObj_size, World.size_alloc]
      have mt : W2.heap[W.heap.size]? = some (.cells #[.int .i64 i, .int .i64 E] 55 (0, 0)) := by
        rw [← hW2]; exact (World.putObj_heap_other (by omega)).trans (World.alloc_heap_new _ _)
      have mb : Below h w W2 := by rw [← hW2]; exact below_put (j1.alloc (by have := j1.size; omega) _) _ _ (by omega)
      rw [hW2]
      have m3 := (ko T (by omega) (by omega)).trans j3
      have m4 := (ko (T + 1) (by omega) (by omega)).trans j4
      have m6 := (ko h (by omega) (by omega)).trans j6
      have m7 := (ko (h + 1 + 1) (by omega) (by omega)).trans j7
      have m8 : Lib.IsBuilder 83 5 (h + 1) (h + 1) (Lib.byteCells (Lx.stripF (bs s) pre).1) W2 := isBuilder_keep j8 (ko _ (by omega) (by omega)) fun k c hk => ko k (heap_lt hk) (by rintro rfl; rw [j5] at hk; cases hk)
      clear hW2 ko
      have mzH := Lib.hid mz
      have t0 : W2.cell? ⟨W.heap.size, 0, none⟩ = some (.int .i64 i) := cell_of_row _ _ _ _ _ _ mt
      have t1 : W2.cell? ⟨h, 0, none⟩ = some (.string s) := cell_of_row _ _ _ _ _ _ m6
      have t2 : W2.cell? ⟨h + 1 + 1, 0, none⟩ = some (.int .i64 (Lx.stripF (bs s) pre).2) := cell_of_row _ _ _ _ _ _ m7
      obtain ⟨at0, hat⟩ : ∃ a, (Lx.stripF (bs s) pre).2 = a := ⟨_, rfl⟩
      have Hat := Lib.hid hat
      have H9 := Lib.hid j9
      rw [hat] at hle t2
      have hle' : (at0 : Int) ≤ (i : Int) := by omega
      have hi' : (i : Int) ≤ (s.size : Int) := by omega
      have hlen : (Lib.byteCells (Lx.stripF (bs s) pre).1).length + (s.extract at0 i).size ≤ 140737488355328 := by
        rw [byteCells_len]
        have := extract_le s at0 i
        have := j9.1
        omega
      have CW := Lib.hid (writeString_any (h + 1) (h + 1) _ (s.extract at0 i) W2 m8 hlen (by omega))
      have M3 := Lib.hid m3
      have M4 := Lib.hid m4
      have M5 := Lib.hid m5
      have M6 := Lib.hid m6
      have M7 := Lib.hid m7
      have M8 := Lib.hid m8
      have MB := Lib.hid mb
      have MT := Lib.hid mt
      clear j1 j3 j4 j5 j6 j7 j8 j9 m3 m4 m5 m6 m7 m8 mb mt hat hlen hpr mz
      gi_wp2_with fail
      refine ⟨trivial, fun _ => by omega, (CallsIn.inRound _ (callsIn_wide.2 CW.out)).mono ?_⟩
      rintro e w4 ⟨rfl, hbd, hbl, hok⟩
      have z4 := hbl.size
      rw [mzH.out] at z4
      have n3 := hok T _ M3.out (by simp only [ne_eq, Option.some.injEq]; omega) (by intro c fz h; exact absurd (Obj.cells.inj h).2.1 (by decide))
      have n4 := hok (T + 1) _ M4.out (by simp only [ne_eq, Option.some.injEq]; omega) (by intro c fz h; cases h)
      have n5 := hok (T + 1 + 1) _ M5.out (by simp only [ne_eq, Option.some.injEq]; omega) (by intro c fz h; cases h)
      have n6 := (hbl.block h (by omega)).trans M6.out
      have n7 := hok (h + 1 + 1) _ M7.out (by simp only [ne_eq, Option.some.injEq]; omega) (by intro c fz h; exact absurd (Obj.cells.inj h).2.1 (by decide))
      have nt := hok W.heap.size _ MT.out (by simp only [ne_eq, Option.some.injEq]; omega) (by intro c fz h; exact absurd (Obj.cells.inj h).2.1 (by decide))
      have n8 : Hid (Lib.IsBuilder 83 5 (h + 1) (h + 1) (Lib.byteCells (Lx.stripF (bs s) pre).1 ++ Lib.strCells (s.extract at0 i)) w4) := Lib.hid (.inr hbd)
      have nB : Hid (Below h w w4) := Lib.hid (MB.out.trans (hbl.mono (by omega)))
      have N3 := Lib.hid n3
      have N4 := Lib.hid n4
      have N5 := Lib.hid n5
      have N6 := Lib.hid n6
      have N7 := Lib.hid n7
      have u1 : w4.cell? ⟨W.heap.size, 1, none⟩ = some (.int .i64 E) := cell_of_row _ _ _ _ _ _ nt
      have u2 : w4.cell? ⟨h + 1 + 1, 0, none⟩ = some (.int .i64 at0) := by have := cell_of_row _ (h + 1 + 1) 0 _ _ _ n7; rw [Hat.out] at this; exact this
      have u3 : w4.frozen? ⟨h + 1 + 1, 0, none⟩ = false := frozen_of_row _ _ _ _ _ n7
      have l4 := heap_lt nt
      clear CW hbd hbl hok n3 n4 n5 n6 n7 nt M3 M4 M5 M6 M7 M8 MB MT t0 t1 t2
      gi_wp2
      obtain ⟨W5, hW5⟩ : ∃ W5, w4.setCell ⟨h + 1 + 1, 0, none⟩ (.int .i64 E) = W5 := ⟨_, rfl⟩
      have so : ∀ b, b ≠ h + 1 + 1 → W5.heap[b]? = w4.heap[b]? := fun b hb1 => by rw [← hW5]; exact Below.heap_setCell _ _ _ _ hb1
      have s7 : W5.heap[h + 1 + 1]? = some (.cells #[.int .i64 E] 3 (0, 0)) := by rw [← hW5]; exact heap_setCell_same _ _ 0 _ _ _ N7.out
      have s8 : Lib.IsBuilder 83 5 (h + 1) (h + 1) (Lib.byteCells (Lx.stripF (bs s) pre).1 ++ Lib.strCells (s.extract at0 i)) W5 := isBuilder_keep n8.out (so _ (by omega)) fun k c hk => so k (by rintro rfl; rw [N7.out] at hk; exact absurd (Obj.cells.inj (Option.some.inj hk)).2.1 (by decide))
      have sB : Below h w W5 := by rw [← hW5]; exact nB.out.setCell (p := ⟨h + 1 + 1, 0, none⟩) (by show h ≤ h + 1 + 1; omega) _
      have sz : W5.heap.size = w4.heap.size := by rw [← hW5]; simp [World.setCell]
      have l5 : W5.heap[T + 1 + 1]? = some (.loop { r with state := .busy }) := (so _ (by omega)).trans N5.out
      rw [hW5]
      refine ⟨_, _, run_endRound none l5, ?_⟩
      have HQ := HRQ.out
      have e0 : ({ ({ r with state := .busy } : Loop) with state := .ready, pending := none } : Loop) = r := HQ
      simp only [Option.isNone_none, if_true]
      rw [e0, ← HR.out]
      have po : ∀ b, b ≠ T + 1 + 1 → (W5.putObj (T + 1 + 1) (.loop r)).heap[b]? = W5.heap[b]? := fun b hb1 => World.putObj_heap_other hb1
      refine ⟨rfl, below_put sB _ _ (by omega), by rw [World.putObj_size]; omega, (po T (by omega)).trans ((so T (by omega)).trans N3.out), (po _ (by omega)).trans ((so _ (by omega)).trans N4.out), World.putObj_heap_same (by omega), (po _ (by omega)).trans ((so _ (by omega)).trans N6.out), ?_, ?_, ?_⟩
      · rw [Lx.stripF_snoc]; exact (po _ (by omega)).trans s7
      · rw [Lx.stripF_snoc, byteCells_append, Hat.out, ← strCells_extract]
        exact isBuilder_keep s8 (po _ (by omega)) fun k c hk => po k (by rintro rfl; rw [l5] at hk; cases hk)
      · exact H9.out.snoc (by rw [Hat.out]; exact hle) (by omega) hel
    · have a0 : ∀ b, b < w3.heap.size → ((w3.alloc (.deferred (some []))).alloc (.loop r)).heap[b]? = w3.heap[b]? := fun b hb => (Below.heap_alloc _ _ _ (by simp only [World.size_alloc]; omega)).trans (Below.heap_alloc _ _ _ hb)
      have hb0 : Below h w ((w3.alloc (.deferred (some []))).alloc (.loop r)) := (hB3.alloc (by omega) _).alloc (by simp only [World.size_alloc]; omega) _
      refine ⟨hb0, by simp [z3], (a0 _ (by omega)).trans b3, ?_, ?_, (a0 _ (by omega)).trans b0, (a0 _ (by omega)).trans b2, ?_, StrOk.nil s⟩
      · rw [← z3]; exact (Below.heap_alloc _ _ _ (by simp only [World.size_alloc]; omega)).trans (World.alloc_heap_new _ _)
      · have := World.alloc_heap_new (w3.alloc (.deferred (some []))) (.loop r)
        rw [World.size_alloc, z3] at this; exact this
      · exact .inl ⟨Nat.le_refl _, .slice none 0 0, (a0 _ (by omega)).trans b1, World.ownsRow_nil _ _ _ _, by simp [Value.ownBlock]⟩
  rw [z3]
  refine hcall.mono ?_
  rintro e w' ⟨⟨v0, rfl⟩, j1, j2, j3, j4, j5, j6, j7, j8, j9⟩
  refine ⟨none, w'.putObj (T + 1 + 1) (.loop { r with state := .exhausted }), ?_, ?_⟩
  · refine (run_endLoop (P := Try.prog) j5 (by rw [hr1]; simp)).trans ?_
    rw [hr2]
  · obtain ⟨W4, hW4⟩ : ∃ W4, w'.putObj (T + 1 + 1) (.loop { r with state := .exhausted }) = W4 := ⟨_, rfl⟩
    have ko : ∀ k, k ≠ T + 1 + 1 → W4.heap[k]? = w'.heap[k]? := fun k hk => by rw [← hW4]; exact World.putObj_heap_other hk
    have kz : W4.heap.size = w'.heap.size := by rw [← hW4]; exact World.putObj_size
    have kb : Hid (Below h w W4) := by rw [← hW4]; exact Lib.hid (below_put j1 _ _ (by omega))
    rw [hW4]
    clear hW4
    have k4 := Lib.hid ((ko (T + 1) (by omega)).trans j4)
    have k6 := (ko h (by omega)).trans j6
    have k7 := (ko (h + 1 + 1) (by omega)).trans j7
    have k8 : Lib.IsBuilder 83 5 (h + 1) (h + 1) (Lib.byteCells (Lx.stripF (bs s) (coms (bs s))).1) W4 := isBuilder_keep j8 (ko _ (by omega)) fun k c hk => ko k (by rintro rfl; rw [j5] at hk; cases hk)
    have q0 : W4.cell? ⟨h, 0, none⟩ = some (.string s) := cell_of_row _ _ _ _ _ _ k6
    have q1 : W4.cell? ⟨h + 1 + 1, 0, none⟩ = some (.int .i64 (Lx.stripF (bs s) (coms (bs s))).2) := cell_of_row _ _ _ _ _ _ k7
    have HO : Hid (leftOf (bs s) (coms (bs s)) = (Lx.stripF (bs s) (coms (bs s))).1 ++ (bs s).drop (Lx.stripF (bs s) (coms (bs s))).2) := Lib.hid rfl
    obtain ⟨LO, hLO⟩ : ∃ LO, leftOf (bs s) (coms (bs s)) = LO := ⟨_, rfl⟩
    rw [hLO] at HO
    rw [hLO]
    obtain ⟨h1, h2⟩ := j9
    obtain ⟨X, hX⟩ : ∃ X, (Lx.stripF (bs s) (coms (bs s))).1 = X := ⟨_, rfl⟩
    obtain ⟨at0, hat⟩ : ∃ a, (Lx.stripF (bs s) (coms (bs s))).2 = a := ⟨_, rfl⟩
    rw [hX, hat] at h1 HO
    rw [hat] at q1 h2
    rw [hX] at k8
    have hle' : (at0 : Int) ≤ (s.size : Int) := by omega
    have HO2 : Hid (Lib.byteCells X ++ Lib.strCells (s.extract at0 s.size) = Lib.byteCells LO) := Lib.hid (by
      rw [HO.out, byteCells_append, strCells_extract, slice_end (by rw [bs_len]; exact Nat.le_refl _)])
    have CW := Lib.hid (writeString_any (h + 1) (h + 1) _ (s.extract at0 s.size) W4 k8 (by rw [byteCells_len]; have := extract_le s at0 s.size; omega) (by omega))
    have hr44 := Lib.hid hr1
    clear hcall ko j1 j3 j4 j5 j6 j7 j8 hLO hX hat k6 k7 k8 hr hr1 hr2 hr3
    refine wpAt_of_wpIn (n := n) ?_
    dsimp only [List.cons_append, List.nil_append]
    gi_wp2_with fail
    refine ⟨trivial, (callsIn_wide.2 CW.out).mono ?_⟩
    rintro e w5 ⟨rfl, hbd, hbl, hok⟩
    have hbd' : Lib.IsBuilder 83 5 (h + 1) (h + 1) (Lib.byteCells X ++ Lib.strCells (s.extract at0 s.size)) w5 := .inr hbd
    rw [HO2.out] at hbd'
    have z5 := hbl.size
    have CS := Lib.hid (Try.Builder_String_any_k (h + 1) (h + 1) LO w5 (Lib.IsBuilderF.of hbd') (by omega))
    have D5 := Lib.hid (hok (T + 1) _ k4.out (by simp only [ne_eq, Option.some.injEq]; omega) (by intro c fz h; cases h))
    have B5 : Hid (Below h w w5) := Lib.hid (kb.out.trans (hbl.mono (by omega)))
    clear hbd hbd' hbl hok CW q0 q1 k4
    gi_wp2_with fail
    refine ⟨trivial, (callsIn_wide.2 CS.out).mono ?_⟩
    rintro e w6 ⟨rfl, _, hbl, hok⟩
    have D6 := hok (T + 1) _ D5.out (by simp only [ne_eq, Option.some.injEq]; omega) (by intro c fz h; cases h)
    have k5 := Lib.hid D6
    have B6 : Hid (Below h w w6) := Lib.hid (B5.out.trans (hbl.mono (by omega)))
    clear CS hbl hok D6 D5
    gi_wp2
    refine ⟨by simp, .inl ⟨_, _, rfl, run_takeDeferred k5.out, ?_⟩⟩
    refine ⟨_, by simp [results, Try.results44, go_sem], rfl, below_put B6.out _ _ (by omega)⟩
theorem strip_any (s : ByteArray) (w : World) (hs : s.size ≤ 140737488355328) :
    Calls Try.prog 44 #[.string s] w fun e w' => e = .returned (.string ⟨(Lx.stripL false (bs s)).toArray⟩) ∧ Below w.heap.size w w' := by
  have := (callsIn_wide (n := 4)).1 (strip_in 4 (Nat.le_refl _) s w hs)
  rw [left_strip] at this
  exact this
end Go.Proofs.Ytihbecfjgdlebaa
