import Derived.Test.YtihbecfjgdlebaaLexFind
namespace Go.Proofs.Ytihbecfjgdlebaa
open Go.RowKit

/-- The array of the bytes that stand in a list. -/
def clsArr (l : Lx.Bs) : Array Value := Array.ofFn (n := 256) fun i => .bool (l.any fun c => decide (c.toNat = i.val))
theorem clsArr_size (l : Lx.Bs) : (clsArr l).size = 256 := by simp [clsArr]
theorem clsArr_get (l : Lx.Bs) (c : UInt8) : (clsArr l)[c.toNat]? = some (.bool (l.any fun d => decide (d.toNat = c.toNat))) := by
  have := c.toNat_lt
  simp [clsArr, this]
theorem clsArr_snoc (l : Lx.Bs) (c : UInt8) : clsArr (l ++ [c]) = (clsArr l).setIfInBounds c.toNat (.bool true) := by
  have := c.toNat_lt
  apply Array.ext
  · simp [clsArr]
  · intro i h1 h2
    simp only [clsArr_size] at h1
    by_cases e : c.toNat = i
    · subst e; simp [clsArr]
    · rw [Array.getElem_setIfInBounds_ne (by simpa [clsArr] using h1) (by simpa using e)]
      simp [clsArr, e]
theorem clsArr_cells (l : Lx.Bs) : (clsArr l).all (·.oneCell') = true := by
  rw [Array.all_eq_true]; intro i hi; simp [clsArr, Value.oneCell']
theorem clsArr_nil : clsArr [] = Try.zeroCells100 := by kernel_rfl
theorem take_snoc (s : ByteArray) (k : Nat) (h : k < s.size) : (bs s).take (k + 1) = (bs s).take k ++ [s[k]] := by
  rw [List.take_succ_eq_append_getElem (by rw [bs_len]; exact h), bs_get h]

theorem infoArr : (Try.prog.info? 100).map (·.size) = some 256 := by kernel_rfl
set_option maxRecDepth 100000 in
set_option maxHeartbeats 400000 in
theorem class_any (s : ByteArray) (w : World) (hs : s.size ≤ maxLen) :
    Calls Try.prog 94 #[.string s] w fun e w' => e = .returned (.agg (clsArr (bs s))) ∧ Below w.heap.size w w' := by
  unfold maxLen at hs
  have hg := clsArr_get
  have hby := byte_lt
  go_enter Try.func94, Try.ntmps94
  go_wp2
  go_loopw [7] (fun v wr => ∃ k : Nat, k ≤ s.size ∧ v = .int .i64 k ∧ wr = (w.alloc (.cells Try.zeroCells100 100)).alloc (.cells (clsArr ((bs s).take k)) 100)) (fun v _ => s.size - (intOf v).toNat)
  case atStart => exact ⟨0, Nat.zero_le _, rfl, by rw [List.take_zero, clsArr_nil]⟩
  case round =>
    obtain ⟨k, hk, rfl, rfl⟩ := hrel
    by_cases hlt : k < s.size
    · go_wp2
      go_roundw
      case rel => exact ⟨k + 1, by omega, by go_num, by rw [take_snoc s k hlt, clsArr_snoc]⟩
      case measure => simp [intOf]; omega
    · obtain rfl : k = s.size := by omega
      have hta : List.take s.size (bs s) = bs s := List.take_of_length_le (by rw [bs_len]; exact Nat.le_refl _)
      rw [hta]
      have HH := Lib.hid (heap_alloc2_new w (.cells Try.zeroCells100 100) (.cells (clsArr (bs s)) 100))
      have HO := Lib.hid (heap_alloc2_old w (.cells Try.zeroCells100 100) (.cells (clsArr (bs s)) 100))
      have HI : Hid ((Try.prog.info? 100).map (·.size) = some (clsArr (bs s)).size) := by rw [clsArr_size]; exact infoArr
      have HZ : Hid (Try.zeroCells100.size = (clsArr (bs s)).size) := by rw [clsArr_size, ← clsArr_nil, clsArr_size]; rfl
      have HC := Lib.hid (clsArr_cells (bs s))
      clear hta hg
      go_wp2_with fail
      refine wp_load_row 100 (.tmp 3) rfl (w.heap.size + 1) rfl 100 (clsArr (bs s)) (0, 0) (.array 256 4) HH.out Try.underlying100 rfl HI.out ?_
      rename_i hK
      refine hK _ _ ?_
      clear hK
      refine wpList_store_row rfl 100 (.tmp 2) (.tmp 15) rfl w.heap.size (clsArr (bs s)) rfl rfl 100 Try.zeroCells100 HO.out HI.out HZ.out HC.out ?_
      go_wp2
      refine bodyPost_ret (v := .agg (clsArr (bs s))) (results_cell_row rfl _ _ w.heap.size 100 (clsArr (bs s)) (0, 0) (.array 256 4) rfl (setRow_heap _ _ _ _ _ _ HO.out) Try.underlying100 rfl HI.out) rfl ⟨rfl, ?_⟩
      refine ((((Below.refl _ w).alloc (Nat.le_refl _) _).alloc (by simp) _)).trans ⟨rfl, rfl, rfl, by simp, fun i hi => setRow_other _ _ _ _ (by omega)⟩
end Go.Proofs.Ytihbecfjgdlebaa
