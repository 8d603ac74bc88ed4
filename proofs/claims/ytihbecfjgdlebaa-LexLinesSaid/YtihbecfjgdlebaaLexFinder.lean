/- Walks of layer 1: the keywords; the finder is made. -/
import Derived.Test.YtihbecfjgdlebaaLexFound
import Derived.Test.YtihbecfjgdlebaaLexCls
import Derived.Deep.WholeRow
import Derived.Laws.EntriesVeiled
import Derived.RangeFuncRecord
namespace Go.Proofs.Ytihbecfjgdlebaa
open Go.RowKit

/-- The cells of the keywords' slice. -/
def wordsArr : Array Value := (wordsB.map Value.string).toArray

set_option maxRecDepth 100000 in
set_option maxHeartbeats 400000 in
theorem words_any (w : World) :
    Calls Try.prog 26 #[] w fun e w' => e = .returned (.slice (some ⟨w.heap.size, 0, none⟩) 17 17) ∧ w' = w.alloc (.cells wordsArr 9) := by
  go_enter Try.func26, Try.ntmps26
  go_wp2
  go_ret
  exact ⟨rfl, rfl⟩

theorem setRow_alloc_old (W : World) (g : Nat) (c : Array Value) (o : Obj) (h : g < W.heap.size) : (W.alloc o).setRow g c = (W.setRow g c).alloc o := by
  simp only [World.setRow, World.alloc]
  congr 1
  apply Array.ext_getElem?
  intro i
  rw [Array.getElem?_modify, Array.getElem?_push, Array.getElem?_push, Array.size_modify, Array.getElem?_modify]
  by_cases e : i = W.heap.size
  · subst e
    rw [if_pos rfl, if_pos rfl, if_neg (by omega)]
  · rw [if_neg e, if_neg e]

def sml : ByteArray := ⟨#[97, 98, 99, 100, 101, 102, 103, 104, 105, 106, 107, 108, 109, 110, 111, 112, 113, 114, 115, 116, 117, 118, 119, 120, 121, 122]⟩
def cpt : ByteArray := ⟨#[65, 66, 67, 68, 69, 70, 71, 72, 73, 74, 75, 76, 77, 78, 79, 80, 81, 82, 83, 84, 85, 86, 87, 88, 89, 90]⟩
def sgn : ByteArray := ⟨#[42, 38, 43, 33, 123, 125, 40, 41, 46, 44, 58, 92]⟩

theorem three1 (W : World) (z c : Array Value) (t : TypeId) (o1 o2 : Obj) : (((W.alloc (.cells z t)).alloc o1).alloc o2).setRow W.heap.size c = ((W.alloc (.cells c t)).alloc o1).alloc o2 := by
  rw [setRow_alloc_old _ _ _ _ (by simp; omega), setRow_alloc_old _ _ _ _ (by simp), World.setRow_alloc_new]
theorem three2 (W : World) (z c : Array Value) (t : TypeId) (o1 o2 : Obj) : (((W.alloc o1).alloc (.cells z t)).alloc o2).setRow (W.heap.size + 1) c = ((W.alloc o1).alloc (.cells c t)).alloc o2 := by
  have e : W.heap.size + 1 = (W.alloc o1).heap.size := by simp
  rw [e, setRow_alloc_old _ _ _ _ (by simp), World.setRow_alloc_new]
theorem three3 (W : World) (z c : Array Value) (t : TypeId) (o1 o2 : Obj) : (((W.alloc o1).alloc o2).alloc (.cells z t)).setRow (W.heap.size + 2) c = ((W.alloc o1).alloc o2).alloc (.cells c t) := by
  have e : W.heap.size + 2 = ((W.alloc o1).alloc o2).heap.size := by simp
  rw [e, World.setRow_alloc_new]
theorem heap3_1 (W : World) (a b c : Obj) : (((W.alloc a).alloc b).alloc c).heap[W.heap.size]? = some a := by
  rw [Below.heap_alloc _ _ _ (by simp; omega), Below.heap_alloc _ _ _ (by simp)]; exact World.alloc_heap_new W a
theorem heap3_2 (W : World) (a b c : Obj) : (((W.alloc a).alloc b).alloc c).heap[W.heap.size + 1]? = some b := by
  rw [Below.heap_alloc _ _ _ (by simp)]; exact heap_alloc2_new W a b
theorem heap3_3 (W : World) (a b c : Obj) : (((W.alloc a).alloc b).alloc c).heap[W.heap.size + 2]? = some c := by
  have := World.alloc_heap_new ((W.alloc a).alloc b) c
  simpa using this
def nmc : ByteArray := ⟨#[97, 98, 99, 100, 101, 102, 103, 104, 105, 106, 107, 108, 109, 110, 111, 112, 113, 114, 115, 116, 117, 118, 119, 120, 121, 122, 65, 66, 67, 68, 69, 70, 71, 72, 73, 74, 75, 76, 77, 78, 79, 80, 81, 82, 83, 84, 85, 86, 87, 88, 89, 90, 48, 49, 50, 51, 52, 53, 54, 55, 56, 57, 95, 39]⟩

def findF (q : FA) : Value := .func (.func 101) #[] #[.pointer (some ⟨q.t, 0, none⟩), .pointer (some ⟨q.sm, 0, none⟩), .pointer (some ⟨q.sc, 0, none⟩), .pointer (some ⟨q.ca, 0, none⟩), .pointer (some ⟨q.tk, 0, none⟩), .pointer (some ⟨q.ne, 0, none⟩), .pointer (some ⟨q.sg, 0, none⟩), .pointer (some ⟨q.lo, 0, none⟩)]
/-- All addresses are from n on. -/
def FA.ge (q : FA) (n : Nat) : Prop := n ≤ q.t ∧ n ≤ q.sm ∧ n ≤ q.ca ∧ n ≤ q.sg ∧ n ≤ q.nm ∧ n ≤ q.wd ∧ n ≤ q.wl ∧ n ≤ q.tk ∧ n ≤ q.fo ∧ n ≤ q.ne ∧ n ≤ q.sc ∧ n ≤ q.lo
/-- The finder is handed back, in a world that holds what it captures. -/
def FinderOut (s : ByteArray) (w : World) (e : Ending) (w' : World) : Prop := ∃ q : FA, e = .returned (findF q) ∧ FEnv q s w' ∧ Below w.heap.size w w' ∧ q.ge w.heap.size

theorem all_bytes {p : Nat → Bool} (h : ∀ n, n < 256 → p n = true) (c : UInt8) : p c.toNat = true := h _ c.toNat_lt
theorem sml_small (c : UInt8) : (bs sml).any (fun d => decide (d.toNat = c.toNat)) = Lx.small c := by
  have := all_bytes (p := fun n => (bs sml).any (fun d => decide (d.toNat = n)) == (decide (97 ≤ n) && decide (n ≤ 122))) (by decide +kernel) c
  simpa [Lx.small] using this
theorem cpt_capital (c : UInt8) : (bs cpt).any (fun d => decide (d.toNat = c.toNat)) = Lx.capital c := by
  have := all_bytes (p := fun n => (bs cpt).any (fun d => decide (d.toNat = n)) == (decide (65 ≤ n) && decide (n ≤ 90))) (by decide +kernel) c
  simpa [Lx.capital] using this
theorem sgn_sign (c : UInt8) : (bs sgn).any (fun d => decide (d.toNat = c.toNat)) = Lx.signB c := by
  have h : ∀ d : UInt8, decide (d.toNat = c.toNat) = (c == d) := fun d => by
    rw [Bool.eq_iff_iff, decide_eq_true_eq, beq_iff_eq, ← UInt8.toNat_inj]; exact eq_comm
  simp only [h]
  simp only [bs, sgn, Lx.signB, List.contains_eq_any_beq]
theorem nmc_part (c : UInt8) : (bs nmc).any (fun d => decide (d.toNat = c.toNat)) = Lx.part c := by
  have := all_bytes (p := fun n => (bs nmc).any (fun d => decide (d.toNat = n)) == ((decide (97 ≤ n) && decide (n ≤ 122)) || (decide (65 ≤ n) && decide (n ≤ 90)) || (decide (48 ≤ n) && decide (n ≤ 57)) || decide (n = 95) || decide (n = 39))) (by decide +kernel) c
  simpa [Lx.part, Lx.small, Lx.capital] using this

theorem last_cell (X : World) (v : Value) (t : TypeId) (F : World) (hb : Below (X.alloc (.cells #[v] t)).heap.size (X.alloc (.cells #[v] t)) F) (n : Nat) (hn : n = X.heap.size) : F.cell? ⟨n, 0, none⟩ = some v := by
  subst hn
  exact (hb.cell (p := ⟨X.heap.size, 0, none⟩) (by simp)).trans (by simp [World.cell?_alloc_at])

theorem env_of (s : ByteArray) (w w1 w2 w3 w4 w5 F : World) (o1 o2 o3 o4 o5 o6 : Obj)
    (hb1 : Below (w.alloc (.cells #[.string s] 9)).heap.size (w.alloc (.cells #[.string s] 9)) w1) (hb2 : Below w1.heap.size w1 w2) (hb3 : Below w2.heap.size w2 w3)
    (hb4 : Below (((w3.alloc (.cells (clsArr (bs sml)) 100)).alloc (.cells (clsArr (bs cpt)) 100)).alloc (.cells (clsArr (bs sgn)) 100)).heap.size
      (((w3.alloc (.cells (clsArr (bs sml)) 100)).alloc (.cells (clsArr (bs cpt)) 100)).alloc (.cells (clsArr (bs sgn)) 100)) w4)
    (hw5 : w5 = (w4.alloc (.cells (clsArr (bs nmc)) 100)).alloc (.cells wordsArr 9))
    (hF : F = (((((w5.alloc o1).alloc o2).alloc o3).alloc o4).alloc o5).alloc o6)
    (h1 : o1 = .cells #[.slice (some ⟨w4.heap.size + 1, 0, none⟩) 17 17] 36)
    (h2 : ∃ t, o2 = .cells #[.func (.func 95) #[] #[.pointer (some ⟨w.heap.size, 0, none⟩)]] t)
    (h3 : ∃ t, o3 = .cells #[.func (.func 96) #[] #[.pointer (some ⟨w.heap.size, 0, none⟩)]] t)
    (h4 : ∃ t, o4 = .cells #[.func (.func 98) #[] #[.pointer (some ⟨w.heap.size, 0, none⟩), .pointer (some ⟨w4.heap.size, 0, none⟩)]] t)
    (h5 : ∃ t, o5 = .cells #[.func (.func 99) #[] #[.pointer (some ⟨w5.heap.size + 1 + 1 + 1, 0, none⟩), .pointer (some ⟨w5.heap.size + 1 + 1, 0, none⟩), .pointer (some ⟨w.heap.size, 0, none⟩), .pointer (some ⟨w3.heap.size, 0, none⟩), .pointer (some ⟨w5.heap.size + 1, 0, none⟩), .pointer (some ⟨w5.heap.size, 0, none⟩)]] t)
    (h6 : ∃ t, o6 = .cells #[.func (.func 100) #[] #[.pointer (some ⟨w5.heap.size + 1 + 1, 0, none⟩), .pointer (some ⟨w5.heap.size + 1 + 1 + 1, 0, none⟩)]] t) :
    FEnv ⟨w.heap.size, w3.heap.size, w3.heap.size + 1, w3.heap.size + 1 + 1, w4.heap.size, w5.heap.size, w4.heap.size + 1, w5.heap.size + 1, w5.heap.size + 1 + 1, w5.heap.size + 1 + 1 + 1, w5.heap.size + 1 + 1 + 1 + 1, w5.heap.size + 1 + 1 + 1 + 1 + 1⟩ s F ∧
      Below w.heap.size w F := by
  obtain ⟨t2, rfl⟩ := h2
  obtain ⟨t3, rfl⟩ := h3
  obtain ⟨t4, rfl⟩ := h4
  obtain ⟨t5, rfl⟩ := h5
  obtain ⟨t6, rfl⟩ := h6
  have z1 := hb1.size
  have z2 := hb2.size
  have z3 := hb3.size
  have z4 := hb4.size
  simp only [World.size_alloc] at z1 z4
  have hz5 : w5.heap.size = w4.heap.size + 1 + 1 := by rw [hw5]; simp
  have b5 : Below w5.heap.size w5 F := by
    rw [hF]
    exact (((((((Below.refl _ w5).alloc (Nat.le_refl _) _).alloc (by simp) _).alloc (by simp; omega) _).alloc (by simp; omega) _).alloc (by simp; omega) _).alloc (by simp; omega) _)
  have b4 : Below w4.heap.size w4 F := by
    have : Below w4.heap.size w4 w5 := by rw [hw5]; exact ((Below.refl _ w4).alloc (Nat.le_refl _) _).alloc (by simp) _
    exact this.trans (b5.mono (by omega))
  have b3 := hb4.trans (b4.mono (by simp only [World.size_alloc]; omega))
  have b3' : Below w3.heap.size w3 F := (((((Below.refl _ w3).alloc (Nat.le_refl _) _).alloc (by simp) _).alloc (by simp; omega) _)).trans (b3.mono (by simp; omega))
  have b0 := hb1.trans ((hb2.trans ((hb3.trans (b3'.mono z3)).mono z2)).mono (by simp only [World.size_alloc]; omega))
  refine ⟨⟨?_, ?_, ?_, ?_, ?_, ?_, ?_, ?_, ?_, ?_, ?_, ?_⟩, ((Below.refl _ w).alloc (Nat.le_refl _) _).trans (b0.mono (by simp))⟩
  · exact (b0.cell (p := ⟨w.heap.size, 0, none⟩) (by simp)).trans (by simp [World.cell?_alloc_at])
  · intro c
    refine (b3.cell (p := ⟨w3.heap.size, c.toNat, none⟩) (by simp; omega)).trans ?_
    rw [cell_of_row _ _ _ _ _ _ (heap3_1 w3 _ _ _), clsArr_get, sml_small]
  · intro c
    refine (b3.cell (p := ⟨w3.heap.size + 1, c.toNat, none⟩) (by simp)).trans ?_
    rw [cell_of_row _ _ _ _ _ _ (heap3_2 w3 _ _ _), clsArr_get, cpt_capital]
  · intro c
    refine (b3.cell (p := ⟨w3.heap.size + 1 + 1, c.toNat, none⟩) (by simp)).trans ?_
    rw [cell_of_row _ _ _ _ _ _ (heap3_3 w3 _ _ _), clsArr_get, sgn_sign]
  · intro c
    refine (b5.cell (p := ⟨w4.heap.size, c.toNat, none⟩) (by simp; omega)).trans ?_
    have hh : w5.heap[w4.heap.size]? = some (.cells (clsArr (bs nmc)) 100) := by rw [hw5]; exact heap_alloc2_old w4 _ _
    rw [cell_of_row _ _ _ _ _ _ hh, clsArr_get, nmc_part]
  · rw [hF, h1]; exact last_cell w5 _ _ _ ((((((Below.refl _ _).alloc (by simp only [World.size_alloc]; omega) _).alloc (by simp only [World.size_alloc]; omega) _).alloc (by simp only [World.size_alloc]; omega) _).alloc (by simp only [World.size_alloc]; omega) _).alloc (by simp only [World.size_alloc]; omega) _) _ rfl
  · intro k hk
    refine (b5.cell (p := ⟨w4.heap.size + 1, 0 + k, none⟩) (by simp; omega)).trans ?_
    have hh : w5.heap[w4.heap.size + 1]? = some (.cells wordsArr 9) := by rw [hw5]; exact heap_alloc2_new w4 _ _
    rw [cell_of_row _ _ _ _ _ _ hh, Nat.zero_add, wordsArr]
    simp [hk, List.getD_eq_getElem?_getD]
  · rw [hF]; exact last_cell _ _ _ _ (((((Below.refl _ _).alloc (by simp only [World.size_alloc]; omega) _).alloc (by simp only [World.size_alloc]; omega) _).alloc (by simp only [World.size_alloc]; omega) _).alloc (by simp only [World.size_alloc]; omega) _) _ (by simp only [World.size_alloc])
  · rw [hF]; exact last_cell _ _ _ _ ((((Below.refl _ _).alloc (by simp only [World.size_alloc]; omega) _).alloc (by simp only [World.size_alloc]; omega) _).alloc (by simp only [World.size_alloc]; omega) _) _ (by simp only [World.size_alloc])
  · rw [hF]; exact last_cell _ _ _ _ (((Below.refl _ _).alloc (by simp only [World.size_alloc]; omega) _).alloc (by simp only [World.size_alloc]; omega) _) _ (by simp only [World.size_alloc])
  · rw [hF]; exact last_cell _ _ _ _ ((Below.refl _ _).alloc (by simp only [World.size_alloc]; omega) _) _ (by simp only [World.size_alloc])
  · rw [hF]; exact last_cell _ _ _ _ (Below.refl _ _) _ (by simp only [World.size_alloc])

set_option maxRecDepth 100000 in
set_option maxHeartbeats 1600000 in
theorem finder_any (s : ByteArray) (w : World) (_hs : s.size ≤ 20000) :
    Calls Try.prog 72 #[.string s] w (FinderOut s w) := by
  have hmf : ∀ (fn : Fn) (first cap : Array Value) (w : World), (Instr.makeFunc fn first cap).run Try.prog w = .ok (.func fn first cap) w := fun _ _ _ _ => rfl
  have HI : ∀ b, Hid ((Try.prog.info? 100).map (·.size) = some (clsArr (bs b)).size) := fun b => by rw [clsArr_size]; exact infoArr
  have HZ : ∀ b, Hid (Try.zeroCells100.size = (clsArr (bs b)).size) := fun b => by rw [clsArr_size, ← clsArr_nil, clsArr_size]; rfl
  have HC := fun b => Lib.hid (clsArr_cells (bs b))
  go_enter Try.func72, Try.ntmps72
  go_wp2_with fail
  refine (class_any sml _ (by unfold maxLen; decide)).mono ?_
  rintro e w1 ⟨rfl, hb1⟩
  have Hb1 := Lib.hid hb1; clear hb1
  go_wp2_with fail
  refine (class_any cpt _ (by unfold maxLen; decide)).mono ?_
  rintro e w2 ⟨rfl, hb2⟩
  have Hb2 := Lib.hid hb2; clear hb2
  go_wp2_with fail
  refine (class_any sgn _ (by unfold maxLen; decide)).mono ?_
  rintro e w3 ⟨rfl, hb3⟩
  have Hb3 := Lib.hid hb3; clear hb3
  go_wp2_with (first
    | (refine wpList_store_row (o := ⟨none, .store 100 (.tmp 3) (.tmp 13), _, _, _, _⟩) rfl 100 (.tmp 3) (.tmp 13) rfl w3.heap.size (clsArr (bs sml)) rfl rfl 100 Try.zeroCells100 (heap3_1 _ _ _ _) (HI _).out (HZ _).out (HC _).out ?_; rw [three1])
    | (refine wpList_store_row (o := ⟨none, .store 100 (.tmp 4) (.tmp 14), _, _, _, _⟩) rfl 100 (.tmp 4) (.tmp 14) rfl (w3.heap.size + 1) (clsArr (bs cpt)) rfl rfl 100 Try.zeroCells100 (heap3_2 _ _ _ _) (HI _).out (HZ _).out (HC _).out ?_; rw [three2])
    | (refine wpList_store_row (o := ⟨none, .store 100 (.tmp 5) (.tmp 15), _, _, _, _⟩) rfl 100 (.tmp 5) (.tmp 15) rfl (w3.heap.size + 2) (clsArr (bs sgn)) rfl rfl 100 Try.zeroCells100 (heap3_3 _ _ _ _) (HI _).out (HZ _).out (HC _).out ?_; rw [three3]))
  refine (class_any nmc _ (by unfold maxLen; decide)).mono ?_
  rintro e w4 ⟨rfl, hb4⟩
  have Hb4 := Lib.hid hb4; clear hb4
  go_wp2_with (first
    | (refine wpList_store_row (o := ⟨none, .store 100 (.tmp 6) (.tmp 16), _, _, _, _⟩) rfl 100 (.tmp 6) (.tmp 16) rfl w4.heap.size (clsArr (bs nmc)) rfl rfl 100 Try.zeroCells100 (World.alloc_heap_new _ _) (HI _).out (HZ _).out (HC _).out ?_; rw [World.setRow_alloc_new]))
  refine (words_any _).mono ?_
  rintro e w5 ⟨rfl, hw5⟩
  have hz : w5.heap.size = w4.heap.size + 2 := by rw [hw5]; simp
  have Hw5 := Lib.hid hw5; clear hw5
  have Hz := Lib.hid hz; clear hz
  go_wp2
  obtain ⟨hE, hB⟩ := env_of s w w1 w2 w3 w4 w5 _ _ _ _ _ _ _ Hb1.out Hb2.out Hb3.out Hb4.out Hw5.out rfl rfl ⟨_, rfl⟩ ⟨_, rfl⟩ ⟨_, rfl⟩ ⟨_, rfl⟩ ⟨_, rfl⟩
  go_ret
  refine ⟨_, rfl, hE, hB, ?_⟩
  have z1 := Hb1.out.size
  have z2 := Hb2.out.size
  have z3 := Hb3.out.size
  have z4 := Hb4.out.size
  have z5 := Hz.out
  simp only [World.size_alloc] at z1 z4
  refine ⟨?_, ?_, ?_, ?_, ?_, ?_, ?_, ?_, ?_, ?_, ?_, ?_⟩ <;> simp only <;> omega
end Go.Proofs.Ytihbecfjgdlebaa
