/- Walks of layer 1's reference: apart. -/
import Derived.Test.YtihbecfjgdlebaaLexRef10
import Derived.Test.YtihbecfjgdlebaaLexRef11
import Derived.Test.YtihbecfjgdlebaaLexRef12
import Derived.Test.YtihbecfjgdlebaaLexGlueA
import Derived.StillTailTactics
namespace Go.Proofs.Ytihbecfjgdlebaa
open Go.RowKit

theorem bs_append (a b : ByteArray) : bs (a ++ b) = bs a ++ bs b := by
  unfold bs; rw [ByteArray.data_append, Array.toList_append]
/-- What the reference's two looks at the joined texts find. -/
theorem apart_facts (a b : AT) (ha : checkB a = true) (hb : checkB b = true) :
    ∃ ka kb : Nat, a.k = ka ∧ b.k = kb ∧ 0 < a.t.size ∧ a.t.size ≤ 40 ∧ 0 < b.t.size ∧ b.t.size ≤ 40 ∧ 0 < ka ∧
      Lx.tokAt (bs (a.t ++ b.t)) a.t.size = some (kb, a.t.size + b.t.size) ∧
      (tightB a b = !decide (Lx.tokAt (bs (a.t ++ b.t)) 0 = some (ka, a.t.size))) := by
  obtain ⟨ha0, ha1⟩ := (checkB_iff a).1 ha
  obtain ⟨hb0, hb1⟩ := (checkB_iff b).1 hb
  have hla : (kt a).x.length = a.t.size := bs_len a.t
  have hlb : (kt b).x.length = b.t.size := bs_len b.t
  have h1 := ha1.1
  have h2 := hb1.1
  have l1 := Lx.tokR_lt h1
  have l2 := Lx.tokR_lt h2
  have k1 : Lx.tokAt (bs a.t) 0 = some ((kt a).k, a.t.size) := by
    rw [Lx.tokAt_rel, List.drop_zero]
    show (Lx.tokR (kt a).x).map _ = _
    rw [h1, hla]
    simp
  have k2 := tokAt_kind k1
  refine ⟨(kt a).k, (kt b).k, (Int.toNat_of_nonneg ha0).symm, (Int.toNat_of_nonneg hb0).symm, by omega, by have := ha1.2; omega, by omega, by have := hb1.2; omega, by omega, ?_, ?_⟩
  · rw [Lx.tokAt_rel, bs_append, List.drop_append_of_le_length (by rw [bs_len]; exact Nat.le_refl _), List.drop_of_length_le (by rw [bs_len]; exact Nat.le_refl _), List.nil_append]
    show (Lx.tokR (kt b).x).map _ = _
    rw [h2, hlb]
    rfl
  · rw [tightB_iff a b ha hb]
    unfold Lx.tightK
    congr 1
    rw [Bool.eq_iff_iff, decide_eq_true_eq, Lx.tokAt_rel, List.drop_zero, bs_append]
    unfold Lx.glued
    show _ ↔ (Lx.tokR ((kt a).x ++ (kt b).x)).map _ = _
    rw [decide_eq_true_eq, hla]
    cases Lx.tokR ((kt a).x ++ (kt b).x) with
    | none => simp
    | some p => obtain ⟨x, y⟩ := p; simp

set_option maxRecDepth 100000 in
set_option maxHeartbeats 1000000 in
theorem rApart_v (V : Bool) (a b : AT) (w : World) (ha : checkB a = true) (hb : checkB b = true) (hV : tightB a b = V) :
    Calls Try.prog 86 #[.agg #[.int .i64 a.k, .string a.t, .int .i64 a.p], .agg #[.int .i64 b.k, .string b.t, .int .i64 b.p]] w fun e w' => e = .returned (.bool V) ∧ Below w.heap.size w w' := by
  obtain ⟨ka, kb, e1, e2, l1, l2, l3, l4, l5, f2, f1⟩ := apart_facts a b ha hb
  obtain ⟨ak, X, ap⟩ := a
  obtain ⟨bk, Y, bp⟩ := b
  simp only at e1 e2 l1 l2 l3 l4 f1 f2 ⊢
  subst e1 e2
  have hsz : (X ++ Y).size = X.size + Y.size := ByteArray.size_append
  have C1 := Lib.hid (fun w => rToken (X ++ Y) 0 w (by omega) (by omega))
  have C2 := Lib.hid (fun w => rToken (X ++ Y) X.size w (by omega) (by omega))
  rw [f2] at C2
  unfold kindJ at C2
  simp only at C2
  have hlim : (9223372036854775807 < X.size + Y.size) = False := eq_false (by omega)
  have hkb : ((kb : Int) != (kb : Int)) = false := by simp
  have hsz2 : (((X.size + Y.size : Nat) : Int) != (((X ++ Y).size : Nat) : Int)) = false := by rw [hsz]; simp
  have hsz3 : ((X.size : Int) + (Y.size : Int) != (((X ++ Y).size : Nat) : Int)) = false := by rw [hsz]; push_cast; simp
  have hsz4 : ((X.size : Int) + (Y.size : Int) != (X.size : Int) + (Y.size : Int)) = false := by simp
  have hka : ((0 : Int) != (ka : Int)) = true := by rw [bne_iff_ne]; omega
  have HV := Lib.hid hV
  clear ha hb hV f2 hsz
  rw [f1] at HV
  clear f1
  rcases hT : Lx.tokAt (bs (X ++ Y)) 0 with _ | ⟨k, j⟩
  · rw [hT] at C1 HV
    have hVt : V = true := by rw [← HV.out]; simp
    subst hVt
    unfold kindJ at C1
    simp only at C1
    clear hT HV C2
    go_enter Try.func86, Try.ntmps86
    go_wp2_with fail
    obtain ⟨h, hh⟩ : ∃ h, w.heap.size = h := ⟨_, rfl⟩
    have hz : ((w.alloc (.cells #[.int .i64 ka, .string X, .int .i64 ap] 33)).alloc (.cells #[.int .i64 kb, .string Y, .int .i64 bp] 33)).heap.size = h + 1 + 1 := by simp [hh]
    have rA : ((w.alloc (.cells #[.int .i64 ka, .string X, .int .i64 ap] 33)).alloc (.cells #[.int .i64 kb, .string Y, .int .i64 bp] 33)).heap[h]? = some (.cells #[.int .i64 ka, .string X, .int .i64 ap] 33 (0, 0)) := by
      rw [← hh]; exact (Below.heap_alloc _ _ _ (by simp)).trans (World.alloc_heap_new _ _)
    have rB : ((w.alloc (.cells #[.int .i64 ka, .string X, .int .i64 ap] 33)).alloc (.cells #[.int .i64 kb, .string Y, .int .i64 bp] 33)).heap[h + 1]? = some (.cells #[.int .i64 kb, .string Y, .int .i64 bp] 33 (0, 0)) := by
      have := World.alloc_heap_new (w.alloc (.cells #[.int .i64 ka, .string X, .int .i64 ap] 33)) (.cells #[.int .i64 kb, .string Y, .int .i64 bp] 33)
      rw [World.size_alloc, hh] at this
      exact this
    have B0 : Below h w ((w.alloc (.cells #[.int .i64 ka, .string X, .int .i64 ap] 33)).alloc (.cells #[.int .i64 kb, .string Y, .int .i64 bp] 33)) := by
      rw [← hh]; exact ((Below.refl _ w).alloc (Nat.le_refl _) _).alloc (by simp) _
    refine (C1.out _).mono ?_
    rintro e w1 ⟨rfl, hb1⟩
    rw [hh]
    rw [hz] at hb1
    have HH := Lib.hid hh
    have HB1 : Hid (Below h w w1) := Lib.hid (B0.trans (hb1.mono (by omega)))
    clear hh
    have sA := (hb1.block h (by omega)).trans rA
    have sB := (hb1.block (h + 1) (by omega)).trans rB
    have SB := Lib.hid sB
    have hz1 := hb1.size
    rw [hz] at hz1
    have a0 : w1.cell? ⟨h, 0, none⟩ = some (.int .i64 ka) := cell_of_row _ _ _ _ _ _ sA
    have a1 : w1.cell? ⟨h, 1, none⟩ = some (.string X) := cell_of_row _ _ _ _ _ _ sA
    clear rA rB B0 hz hb1 sA sB C1
    go_wp2
    go_ret
    exact ⟨rfl, by rw [HH.out]; exact HB1.out⟩
  · rw [hT] at C1 HV
    unfold kindJ at C1
    simp only at C1
    clear hT
    by_cases hk : k = ka
    · subst hk
      by_cases hj : j = X.size
      · subst hj
        have hVt : V = false := by rw [← HV.out]; simp
        subst hVt
        have hj2 : ((X.size : Int) != (X.size : Int)) = false := by simp
        clear HV
        go_enter Try.func86, Try.ntmps86
        go_wp2_with fail
        obtain ⟨h, hh⟩ : ∃ h, w.heap.size = h := ⟨_, rfl⟩
        have hz : ((w.alloc (.cells #[.int .i64 k, .string X, .int .i64 ap] 33)).alloc (.cells #[.int .i64 kb, .string Y, .int .i64 bp] 33)).heap.size = h + 1 + 1 := by simp [hh]
        have rA : ((w.alloc (.cells #[.int .i64 k, .string X, .int .i64 ap] 33)).alloc (.cells #[.int .i64 kb, .string Y, .int .i64 bp] 33)).heap[h]? = some (.cells #[.int .i64 k, .string X, .int .i64 ap] 33 (0, 0)) := by
          rw [← hh]; exact (Below.heap_alloc _ _ _ (by simp)).trans (World.alloc_heap_new _ _)
        have rB : ((w.alloc (.cells #[.int .i64 k, .string X, .int .i64 ap] 33)).alloc (.cells #[.int .i64 kb, .string Y, .int .i64 bp] 33)).heap[h + 1]? = some (.cells #[.int .i64 kb, .string Y, .int .i64 bp] 33 (0, 0)) := by
          have := World.alloc_heap_new (w.alloc (.cells #[.int .i64 k, .string X, .int .i64 ap] 33)) (.cells #[.int .i64 kb, .string Y, .int .i64 bp] 33)
          rw [World.size_alloc, hh] at this
          exact this
        have B0 : Below h w ((w.alloc (.cells #[.int .i64 k, .string X, .int .i64 ap] 33)).alloc (.cells #[.int .i64 kb, .string Y, .int .i64 bp] 33)) := by
          rw [← hh]; exact ((Below.refl _ w).alloc (Nat.le_refl _) _).alloc (by simp) _
        refine (C1.out _).mono ?_
        rintro e w1 ⟨rfl, hb1⟩
        rw [hh]
        rw [hz] at hb1
        have HH := Lib.hid hh
        have HB1 : Hid (Below h w w1) := Lib.hid (B0.trans (hb1.mono (by omega)))
        clear hh
        have sA := (hb1.block h (by omega)).trans rA
        have sB := (hb1.block (h + 1) (by omega)).trans rB
        have SB := Lib.hid sB
        have hz1 := hb1.size
        rw [hz] at hz1
        have a0 : w1.cell? ⟨h, 0, none⟩ = some (.int .i64 k) := cell_of_row _ _ _ _ _ _ sA
        have a1 : w1.cell? ⟨h, 1, none⟩ = some (.string X) := cell_of_row _ _ _ _ _ _ sA
        clear rA rB B0 hz hb1 sA sB C1
        go_wp2_with fail
        refine (C2.out _).mono ?_
        rintro e w2 ⟨rfl, hb2⟩
        have HB2 : Hid (Below h w w2) := Lib.hid (HB1.out.trans (hb2.mono (by omega)))
        have b0 : w2.cell? ⟨h + 1, 0, none⟩ = some (.int .i64 kb) := cell_of_row _ _ _ _ _ _ ((hb2.block (h + 1) (by omega)).trans SB.out)
        clear hb2 C2 a0 a1
        go_wp2
        go_ret
        exact ⟨rfl, by rw [HH.out]; exact HB2.out⟩
      · have hVt : V = true := by rw [← HV.out]; simp [hj]
        subst hVt
        have hj2 : ((j : Int) != (X.size : Int)) = true := by rw [bne_iff_ne]; omega
        clear HV C2
        go_enter Try.func86, Try.ntmps86
        go_wp2_with fail
        obtain ⟨h, hh⟩ : ∃ h, w.heap.size = h := ⟨_, rfl⟩
        have hz : ((w.alloc (.cells #[.int .i64 k, .string X, .int .i64 ap] 33)).alloc (.cells #[.int .i64 kb, .string Y, .int .i64 bp] 33)).heap.size = h + 1 + 1 := by simp [hh]
        have rA : ((w.alloc (.cells #[.int .i64 k, .string X, .int .i64 ap] 33)).alloc (.cells #[.int .i64 kb, .string Y, .int .i64 bp] 33)).heap[h]? = some (.cells #[.int .i64 k, .string X, .int .i64 ap] 33 (0, 0)) := by
          rw [← hh]; exact (Below.heap_alloc _ _ _ (by simp)).trans (World.alloc_heap_new _ _)
        have rB : ((w.alloc (.cells #[.int .i64 k, .string X, .int .i64 ap] 33)).alloc (.cells #[.int .i64 kb, .string Y, .int .i64 bp] 33)).heap[h + 1]? = some (.cells #[.int .i64 kb, .string Y, .int .i64 bp] 33 (0, 0)) := by
          have := World.alloc_heap_new (w.alloc (.cells #[.int .i64 k, .string X, .int .i64 ap] 33)) (.cells #[.int .i64 kb, .string Y, .int .i64 bp] 33)
          rw [World.size_alloc, hh] at this
          exact this
        have B0 : Below h w ((w.alloc (.cells #[.int .i64 k, .string X, .int .i64 ap] 33)).alloc (.cells #[.int .i64 kb, .string Y, .int .i64 bp] 33)) := by
          rw [← hh]; exact ((Below.refl _ w).alloc (Nat.le_refl _) _).alloc (by simp) _
        refine (C1.out _).mono ?_
        rintro e w1 ⟨rfl, hb1⟩
        rw [hh]
        rw [hz] at hb1
        have HH := Lib.hid hh
        have HB1 : Hid (Below h w w1) := Lib.hid (B0.trans (hb1.mono (by omega)))
        clear hh
        have sA := (hb1.block h (by omega)).trans rA
        have sB := (hb1.block (h + 1) (by omega)).trans rB
        have SB := Lib.hid sB
        have hz1 := hb1.size
        rw [hz] at hz1
        have a0 : w1.cell? ⟨h, 0, none⟩ = some (.int .i64 k) := cell_of_row _ _ _ _ _ _ sA
        have a1 : w1.cell? ⟨h, 1, none⟩ = some (.string X) := cell_of_row _ _ _ _ _ _ sA
        clear rA rB B0 hz hb1 sA sB C1
        go_wp2
        go_ret
        exact ⟨rfl, by rw [HH.out]; exact HB1.out⟩
    · have hVt : V = true := by rw [← HV.out]; simp [hk]
      subst hVt
      have hk2 : ((k : Int) != (ka : Int)) = true := by rw [bne_iff_ne]; omega
      clear HV C2
      go_enter Try.func86, Try.ntmps86
      go_wp2_with fail
      obtain ⟨h, hh⟩ : ∃ h, w.heap.size = h := ⟨_, rfl⟩
      have hz : ((w.alloc (.cells #[.int .i64 ka, .string X, .int .i64 ap] 33)).alloc (.cells #[.int .i64 kb, .string Y, .int .i64 bp] 33)).heap.size = h + 1 + 1 := by simp [hh]
      have rA : ((w.alloc (.cells #[.int .i64 ka, .string X, .int .i64 ap] 33)).alloc (.cells #[.int .i64 kb, .string Y, .int .i64 bp] 33)).heap[h]? = some (.cells #[.int .i64 ka, .string X, .int .i64 ap] 33 (0, 0)) := by
        rw [← hh]; exact (Below.heap_alloc _ _ _ (by simp)).trans (World.alloc_heap_new _ _)
      have rB : ((w.alloc (.cells #[.int .i64 ka, .string X, .int .i64 ap] 33)).alloc (.cells #[.int .i64 kb, .string Y, .int .i64 bp] 33)).heap[h + 1]? = some (.cells #[.int .i64 kb, .string Y, .int .i64 bp] 33 (0, 0)) := by
        have := World.alloc_heap_new (w.alloc (.cells #[.int .i64 ka, .string X, .int .i64 ap] 33)) (.cells #[.int .i64 kb, .string Y, .int .i64 bp] 33)
        rw [World.size_alloc, hh] at this
        exact this
      have B0 : Below h w ((w.alloc (.cells #[.int .i64 ka, .string X, .int .i64 ap] 33)).alloc (.cells #[.int .i64 kb, .string Y, .int .i64 bp] 33)) := by
        rw [← hh]; exact ((Below.refl _ w).alloc (Nat.le_refl _) _).alloc (by simp) _
      refine (C1.out _).mono ?_
      rintro e w1 ⟨rfl, hb1⟩
      rw [hh]
      rw [hz] at hb1
      have HH := Lib.hid hh
      have HB1 : Hid (Below h w w1) := Lib.hid (B0.trans (hb1.mono (by omega)))
      clear hh
      have sA := (hb1.block h (by omega)).trans rA
      have sB := (hb1.block (h + 1) (by omega)).trans rB
      have SB := Lib.hid sB
      have hz1 := hb1.size
      rw [hz] at hz1
      have a0 : w1.cell? ⟨h, 0, none⟩ = some (.int .i64 ka) := cell_of_row _ _ _ _ _ _ sA
      have a1 : w1.cell? ⟨h, 1, none⟩ = some (.string X) := cell_of_row _ _ _ _ _ _ sA
      clear rA rB B0 hz hb1 sA sB C1
      go_wp2
      go_ret
      exact ⟨rfl, by rw [HH.out]; exact HB1.out⟩
end Go.Proofs.Ytihbecfjgdlebaa
