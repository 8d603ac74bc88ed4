/- Walks of layer 1: Scan's deferred closure, which recovers a refusal; the copy of a text; the sequence of its tokens. -/
import Derived.Test.YtihbecfjgdlebaaLexIter
namespace Go.Proofs.Ytihbecfjgdlebaa
open Go.RowKit

set_option maxRecDepth 100000 in
set_option maxHeartbeats 400000 in
theorem clone_any (s : ByteArray) (w : World) (hs : s.size ≤ 20000) :
    Calls Try.prog 48 #[.string s] w fun e w' => e = .returned (.string s) ∧ Below w.heap.size w w' := by
  go_enter Try.func48, Try.ntmps48
  go_wp2_with (go_at_call 74; refine (Try.stringslite_Clone s _ (by omega)).mono ?_; rintro e w' ⟨rfl, hb⟩)
  go_ret
  exact ⟨rfl, hb⟩

set_option maxRecDepth 100000 in
set_option maxHeartbeats 400000 in
theorem tokens_any (s : ByteArray) (w : World) :
    Calls Try.prog 47 #[.string s] w fun e w' => e = .returned (.func (.func 71) #[] #[.pointer (some ⟨w.heap.size, 0, none⟩)]) ∧ w' = w.alloc (.cells #[.string s] 9) := by
  have hmf : ∀ (fn : Fn) (first cap : Array Value) (w : World), (Instr.makeFunc fn first cap).run Try.prog w = .ok (.func fn first cap) w := fun _ _ _ _ => rfl
  go_enter Try.func47, Try.ntmps47
  go_wp2
  go_ret
  exact ⟨rfl, rfl⟩

theorem assert_nil (w : World) : (Instr.typeAssert Value.nilIface 20 57 true).run Try.prog w = .ok (.tuple #[.agg #[.int .i64 0, .int .i64 0], .bool false]) w := by kernel_rfl
theorem assert_yes (v : Value) (w : World) : (Instr.typeAssert (.iface 57 v) 20 57 true).run Try.prog w = .ok (.tuple #[v, .bool true]) w := by kernel_rfl

set_option maxRecDepth 100000 in
set_option maxHeartbeats 400000 in
theorem catch_idle (n h : Nat) (w : World) :
    CallsDIn Fence.wide n Try.prog 46 #[.pointer (some ⟨h, 0, none⟩), .pointer (some ⟨h + 1, 0, none⟩), .pointer (some ⟨h + 1 + 1, 0, none⟩)] .returning w fun e u' w' =>
      e = .returned (.tuple #[]) ∧ u' = .returning ∧ w' = w.alloc (.cells #[.int .i64 0, .int .i64 0] 57) := by
  have hta := assert_nil
  have hwd : ∀ x, Fence.wide.fn x := fun _ => trivial
  refine callsDIn_of_wpSIn Try.func46 rfl trivial fun c₀ cs hu => ?_
  apply wpSIn_seq
  apply wpSIn_region
  simp [wpOpsSIn, go_sem, recoverD, hu, Try.ntmps46, Exit.thenS, hta, hwd]
  refine wpSIn_of_wpIn rfl (wpIn_wide.2 ?_)
  simp only [Array.replicate_succ, Array.replicate_zero, List.push_toArray, List.nil_append, List.cons_append, List.append_toArray, List.setIfInBounds_toArray, List.set_cons_succ, List.set_cons_zero]
  go_wp2
  refine ⟨rfl, .returning, by cases c₀; simp_all, .tuple #[], by simp [results, Try.results46], rfl, rfl, rfl⟩

set_option maxRecDepth 100000 in
set_option maxHeartbeats 400000 in
theorem catch_panic (n h i er : Nat) (older : List PanicEntry) (lv : Value) (x y : Int) (w : World)
    (c0 : w.cell? ⟨h, 0, none⟩ = some lv) (c1 : w.cell? ⟨h + 1, 0, none⟩ = some (.int .i64 x)) (c2 : w.cell? ⟨h + 1 + 1, 0, none⟩ = some (.int .i64 y))
    (f0 : w.frozen? ⟨h, 0, none⟩ = false) (f1 : w.frozen? ⟨h + 1, 0, none⟩ = false) (f2 : w.frozen? ⟨h + 1 + 1, 0, none⟩ = false) (_hlv : lv.oneCell' = true) :
    CallsDIn Fence.wide n Try.prog 46 #[.pointer (some ⟨h, 0, none⟩), .pointer (some ⟨h + 1, 0, none⟩), .pointer (some ⟨h + 1 + 1, 0, none⟩)] (.panicking ({ v := refuse i er, recovered := false } :: older)) w fun e u' w' =>
      e = .returned (.tuple #[]) ∧ u' = .panicking ({ v := refuse i er, recovered := true } :: older) ∧ Below h w w' ∧ w'.cell? ⟨h, 0, none⟩ = some (.slice none 0 0) ∧ w'.cell? ⟨h + 1, 0, none⟩ = some (.int .i64 i) ∧ w'.cell? ⟨h + 1 + 1, 0, none⟩ = some (.int .i64 er) := by
  have b0 := block_lt_of_cell c0
  have b1 := block_lt_of_cell c1
  have b2 := block_lt_of_cell c2
  simp only at b0 b1 b2
  have hta := assert_yes
  have hwd : ∀ x, Fence.wide.fn x := fun _ => trivial
  unfold refuse
  refine callsDIn_of_wpSIn Try.func46 rfl trivial fun c₀ cs hu => ?_
  apply wpSIn_seq
  apply wpSIn_region
  simp [wpOpsSIn, go_sem, recoverD, hu, Try.ntmps46, Exit.thenS, hta, hwd]
  refine wpSIn_of_wpIn rfl (wpIn_wide.2 ?_)
  simp only [Array.replicate_succ, Array.replicate_zero, List.push_toArray, List.nil_append, List.cons_append, List.append_toArray, List.setIfInBounds_toArray, List.set_cons_succ, List.set_cons_zero]
  clear hwd hta
  go_wp2
  go_region
  refine ⟨rfl, .panicking ({ v := .iface 57 (.agg #[.int .i64 i, .int .i64 er]), recovered := true } :: older), rfl, .tuple #[], by simp [results, Try.results46], rfl, rfl, ?_, ?_, ?_, ?_⟩
  · exact (((((Below.refl h w).setCell (p := ⟨h, 0, none⟩) (Nat.le_refl _) _).setCell (p := ⟨h + 1, 0, none⟩) (by simp) _).setCell (p := ⟨h + 1 + 1, 0, none⟩) (by simp only; omega) _).alloc (by simp [World.setCell]; omega) _).drew
  · simp [go_sem, b0, c0]
  · simp [go_sem, b1, c1]
  · simp [go_sem, b2, c2]
end Go.Proofs.Ytihbecfjgdlebaa
