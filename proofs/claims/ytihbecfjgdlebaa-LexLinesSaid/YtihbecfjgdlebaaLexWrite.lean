/- Walks of layer 1: Join, Tight. -/
import Derived.Test.YtihbecfjgdlebaaLexBuild
import Derived.Test.YtihbecfjgdlebaaLexCheckV
import Derived.StillTailTactics
import Derived.BigQuiet
import Derived.Laws.BitsLemmas
namespace Go.Proofs.Ytihbecfjgdlebaa
open Go.RowKit

def noAT : AT := ⟨0, ⟨#[]⟩, 0⟩
/-- The space ahead of the token k. -/
def gapB (sep : AT → AT → Bool) (l : List AT) (k : Nat) : Bool := decide (0 < k) && sep (l.getD (k - 1) noAT) (l.getD k noAT)
/-- What is written of the first k tokens. -/
def outK (sep : AT → AT → Bool) (l : List AT) : Nat → Lx.Bs
  | 0 => []
  | k + 1 => (outK sep l k ++ (if gapB sep l k then [32] else [])) ++ bs (l.getD k noAT).t
/-- What write hands back. -/
def wroteB (sep : AT → AT → Bool) (l : List AT) : Lx.Bs :=
  if 6000 < l.length then [] else if l.all checkB then (if 20000 < (outK sep l l.length).length then [] else outK sep l l.length) else []

theorem getD_in {l : List AT} {k : Nat} (h : k < l.length) : l.getD k noAT = l[k] := by simp [List.getD, List.getElem?_eq_getElem h]
theorem checkB_size {a : AT} (h : checkB a = true) : a.t.size ≤ 20000 := by
  unfold checkB scansB at h
  unfold Lx.scan at h
  rw [bs_len] at h
  by_cases hb : 20000 < a.t.size
  · rw [if_pos hb] at h; simp at h
  · omega
theorem outK_len (sep : AT → AT → Bool) (l : List AT) (k : Nat) (hk : k ≤ l.length) (h : ∀ i, (hi : i < l.length) → i < k → checkB l[i] = true) : (outK sep l k).length ≤ k * 20001 := by
  induction k with
  | zero => simp [outK]
  | succ k ih =>
    have h1 := ih (by omega) fun i hi hik => h i hi (by omega)
    have h2 := checkB_size (h k (by omega) (by omega))
    have e : l.getD k noAT = l[k] := getD_in (by omega)
    simp only [outK, List.length_append, e, bs_len]
    split <;> simp <;> omega

theorem isBuilder_below {T e : TypeId} {B b : Nat} {xs : List Value} {w w' : World} (h : Lib.IsBuilder T e B b xs w) (hb : Below w.heap.size w w') : Lib.IsBuilder T e B b xs w' := by
  rcases h with ⟨h1, v, h2, h3, h4⟩ | ⟨h1, v, h2, h3, h4⟩
  · exact .inl ⟨h1, v, (hb.block _ (heap_lt h2)).trans h2, ownsRow_below' h3 hb, h4⟩
  · exact .inr ⟨h1, v, (hb.block _ (heap_lt h2)).trans h2, ownsRow_below' h3 hb, h4⟩
theorem isBuilder_lt {T e : TypeId} {B b : Nat} {xs : List Value} {w : World} (h : Lib.IsBuilder T e B b xs w) : b < w.heap.size := h.elim (fun h => h.lt) (fun h => h.lt)
theorem cells_bytes (s : ByteArray) : Lib.strCells s = Lib.byteCells (bs s) := rfl
theorem byteCells_append (a b : Lx.Bs) : Lib.byteCells (a ++ b) = Lib.byteCells a ++ Lib.byteCells b := List.map_append
theorem byteCells_len (a : Lx.Bs) : (Lib.byteCells a).length = a.length := List.length_map _

set_option maxRecDepth 100000 in
set_option maxHeartbeats 1000000 in
theorem write_any (sep : AT → AT → Bool) (F : FuncId) (eF : ∀ args w, (callFunc F args).run Try.prog w = .ok (.enter F args) w)
    (hsep : ∀ a b w, a.t.size ≤ 20000 → b.t.size ≤ 20000 → Calls Try.prog F #[a.v, b.v] w fun e w' => e = .returned (.bool (sep a b)) ∧ Below w.heap.size w w')
    (v : Value) (l : List AT) (w : World) (hv : TokSl w v l) (hm : l.length ≤ maxLen) (hx : ∀ i, (h : i < l.length) → l[i].t.size ≤ maxLen) :
    Calls Try.prog 58 #[v, .func (.func F) #[] #[]] w fun e w' => e = .returned (.string ⟨(wroteB sep l).toArray⟩) ∧ Below w.heap.size w w' := by
  obtain ⟨a, ca, rfl, hca⟩ := hv
  unfold maxLen at hm
  have HX := Lib.hid hx
  clear hx
  by_cases h6 : 6000 < l.length
  · have h6' : (6000 : Int) < (l.length : Int) := by omega
    have HS := Lib.hid (show wroteB sep l = [] from if_pos h6)
    clear hca
    go_enter Try.func58, Try.ntmps58
    go_wp2
    go_ret
    exact ⟨by rw [HS.out]; rfl, Below.refl _ _⟩
  have h6' : ¬ ((6000 : Int) < (l.length : Int)) := by omega
  go_enter Try.func58, Try.ntmps58
  go_wp2
  go_loopw [13] (fun v wr => ∃ k : Nat, k ≤ l.length ∧ v = .int .i64 k ∧ Hid (∀ i, (hi : i < l.length) → i < k → checkB l[i] = true) ∧ Hid (Lib.IsBuilder 83 5 w.heap.size w.heap.size (Lib.byteCells (outK sep l k)) wr) ∧ Hid (Below w.heap.size w wr)) (fun v _ => l.length - (intOf v).toNat)
  case atStart =>
    refine ⟨0, Nat.zero_le _, rfl, Lib.hid (fun i _ h => absurd h (Nat.not_lt_zero _)), ?_, (Below.refl _ w).alloc (Nat.le_refl _) _⟩
    exact Lib.hid (.inl ⟨Nat.le_refl _, .slice none 0 0, World.alloc_heap_new _ _, World.ownsRow_nil _ _ _ _, by simp [Value.ownBlock]⟩)
  case round =>
    obtain ⟨k, hk, rfl, hall, hbd, hbl⟩ := hrel
    have hsz := hbl.out.size
    by_cases hlt : k < l.length
    · obtain ⟨ba, oa, rfl, hA⟩ := hca (by rintro rfl; simp at hlt)
      clear hca
      obtain ⟨x0, x1, x2⟩ := (hA k hlt).below ((hbl.out.mono (Nat.le_refl _)))
      have n0 := block_lt_of_cell x0
      have HA := Lib.hid hA
      clear hA
      have hxk := HX.out k hlt
      have Hout := Lib.hid (show outK sep l (k + 1) = (outK sep l k ++ (if gapB sep l k then [32] else [])) ++ bs l[k].t from by simp only [outK]; rw [getD_in hlt])
      obtain ⟨A, hAk⟩ : ∃ A, l[k] = A := ⟨_, rfl⟩
      rw [hAk] at x0 x1 x2 hxk Hout
      have HAk := Lib.hid hAk
      clear hAk
      have C := Lib.hid (fun w => check_any A w hxk)
      go_wp2_with fail
      refine (C.out _).mono ?_
      clear C
      rintro e w1 ⟨rfl, hb1⟩
      have Hb1 := Lib.hid hb1
      clear hb1
      obtain ⟨N, hN⟩ : ∃ N, wr.heap.size = N := ⟨_, rfl⟩
      have hB1 : Hid (Below N wr w1) := ((Below.refl _ wr).alloc (Nat.le_refl _) _).mono (by omega) |>.trans (Hb1.out.mono (by simp only [World.size_alloc]; omega))
      have Hrow : Hid (w1.heap[N]? = some (.cells #[.int .i64 A.k, .string A.t, .int .i64 A.p] 33 (0, 0))) :=
        (Hb1.out.block N (by simp only [World.size_alloc]; omega)).trans (by rw [← hN]; exact World.alloc_heap_new _ _)
      rw [hN]
      have HN := Lib.hid hN
      clear hN
      cases hc : checkB A
      · have HR : Hid (wroteB sep l = []) := by
          refine (if_neg h6).trans (if_neg ?_)
          intro h
          have := List.all_eq_true.1 h A (by rw [← HAk.out]; exact List.getElem_mem _)
          rw [hc] at this
          cases this
        clear hc
        go_wp2
        go_ret
        exact ⟨by rw [HR.out]; rfl, hbl.out.trans (hB1.out.mono (by have := HN.out; omega))⟩
      · have HC := Lib.hid hc
        clear hc
        go_upto_region 9 with fail
        obtain ⟨G, hG⟩ : ∃ G, gapB sep l k = G := ⟨_, rfl⟩
        have HG := Lib.hid hG
        clear hG
        go_cut [32] (fun v wx => v = .bool G ∧ Hid (Below w1.heap.size w1 wx))
        case first =>
          by_cases h0 : k = 0
          · subst h0
            go_region
            all_goals go_wp2
            all_goals go_meet
            exact ⟨by rw [← HG.out]; rfl, (Below.refl _ _).drew⟩
          · obtain ⟨m, rfl⟩ : ∃ m, k = m + 1 := ⟨k - 1, by omega⟩
            obtain ⟨y0, y1, y2⟩ := ((HA.out m (by omega)).below (hbl.out)).below (hB1.out.mono (by have := HN.out; omega))
            have n1 := block_lt_of_cell y0
            obtain ⟨P, hP⟩ : ∃ P, l[m]'(by omega) = P := ⟨_, rfl⟩
            have hg : gapB sep l (m + 1) = sep P A := by
              unfold gapB
              rw [getD_in hlt, HAk.out, show m + 1 - 1 = m from rfl, getD_in (by omega), hP]
              simp
            have Hg := Lib.hid hg
            rw [hP] at y0 y1 y2
            have hPs := checkB_size (hP ▸ hall.out m (by omega) (by omega))
            have C2 := Lib.hid (fun w => hsep P A w hPs (checkB_size HC.out))
            have z0 : w1.cell? ⟨N, 0, none⟩ = some (.int .i64 A.k) := cell_of_row _ _ _ _ _ _ Hrow.out
            have z1 : w1.cell? ⟨N, 1, none⟩ = some (.string A.t) := cell_of_row _ _ _ _ _ _ Hrow.out
            have z2 : w1.cell? ⟨N, 2, none⟩ = some (.int .i64 A.p) := cell_of_row _ _ _ _ _ _ Hrow.out
            have n2 := heap_lt Hrow.out
            have e1 : (m + 1 : Int) - 1 = m := by omega
            clear hP hg
            have hwr : IntKind.i64.wrap (m : Int) = m := by rw [IntKind.wrap_i64]; omega
            have hm0 : (0 : Int) ≤ (m : Int) := by omega
            have hm1 : (m : Int) < (l.length : Int) := by omega
            go_still_tail 10, (by kernel_rfl)
            change wpList _ _ _ _ _ w1.drew
            go_wp2_with fail
            refine (C2.out _).mono ?_
            rintro e w' ⟨rfl, hbx⟩
            go_wp2
            go_meet
            exact ⟨by rw [← HG.out, Hg.out], ((Below.refl _ w1).drew).trans hbx⟩
        case rest =>
          obtain ⟨rfl, hbc⟩ := hcut
          have hw1 : w.heap.size ≤ w1.heap.size := by have := hB1.out.size; have := HN.out; omega
          have hbcz := hbc.out.size
          have hNlt := heap_lt Hrow.out
          have HbW : Hid (Below w.heap.size w wc) := hbl.out.trans ((hB1.out.mono (by have := HN.out; omega)).trans (hbc.out.mono hw1))
          have HrowC : Hid (wc.heap[N]? = some (.cells #[.int .i64 A.k, .string A.t, .int .i64 A.p] 33 (0, 0))) := (hbc.out.block N hNlt).trans Hrow.out
          have HbdC := Lib.hid (isBuilder_below (isBuilder_below hbd.out (hB1.out.mono (by have := HN.out; omega))) hbc.out)
          have HL := Lib.hid (outK_len sep l k hk hall.out)
          have HAs := checkB_size HC.out
          have Hall : Hid (∀ i, (hi : i < l.length) → i < k + 1 → checkB l[i] = true) := Lib.hid fun i hi hik => by
            by_cases e : i = k
            · subst e; rw [HAk.out]; exact HC.out
            · exact hall.out i hi (by omega)
          rw [HG.out] at Hout
          cases G
          · have CS := Lib.hid (writeString_any w.heap.size w.heap.size _ A.t wc HbdC.out (by rw [byteCells_len]; have := HL.out; omega) (by omega))
            have z1 : wc.cell? ⟨N, 1, none⟩ = some (.string A.t) := cell_of_row _ _ _ _ _ _ HrowC.out
            go_wp2_with fail
            refine CS.out.mono ?_
            rintro e w3 ⟨rfl, hb3, hbl3, hok3⟩
            have Hb3 := Lib.hid (show Lib.IsBuilder 83 5 w.heap.size w.heap.size _ w3 from .inr hb3)
            have Hbl3 := Lib.hid hbl3
            clear CS hb3 hbl3 hok3
            go_wp2
            go_roundw
            case rel =>
              refine ⟨k + 1, hlt, by push_cast; rfl, Hall, ?_, HbW.out.trans Hbl3.out⟩
              rw [Hout.out, byteCells_append, byteCells_append, ← cells_bytes, show Lib.byteCells (if false = true then [32] else []) = [] from rfl, List.append_nil]
              exact Hb3
            case measure => simp [intOf]; omega
          · have CS := Lib.hid (writeByte_any w.heap.size w.heap.size _ 32 wc HbdC.out (by rw [byteCells_len]; have := HL.out; omega) (by omega))
            go_wp2_with fail
            refine CS.out.mono ?_
            clear CS
            rintro e w3 ⟨rfl, hb3, hbl3, hok3⟩
            have Hb3 := Lib.hid (show Lib.IsBuilder 83 5 w.heap.size w.heap.size _ w3 from .inr hb3)
            have Hbl3 := Lib.hid hbl3
            have HrowD : Hid (w3.heap[N]? = some (.cells #[.int .i64 A.k, .string A.t, .int .i64 A.p] 33 (0, 0))) :=
              hok3 N _ HrowC.out (by have := HN.out; have := hbd.out; intro e; have e2 : N = w.heap.size := Option.some.inj e; have := isBuilder_lt hbd.out; omega) (by intro c fz h; exact absurd (Obj.cells.inj h).2.1 (by decide))
            clear hb3 hbl3 hok3
            have CT := Lib.hid (writeString_any w.heap.size w.heap.size _ A.t w3 Hb3.out (by rw [List.length_append, byteCells_len]; have := HL.out; simp only [List.length_singleton]; omega) (by have := Hbl3.out.size; omega))
            have z1 : w3.cell? ⟨N, 1, none⟩ = some (.string A.t) := cell_of_row _ _ _ _ _ _ HrowD.out
            go_wp2_with fail
            refine CT.out.mono ?_
            rintro e w4 ⟨rfl, hb4, hbl4, hok4⟩
            have Hb4 := Lib.hid (show Lib.IsBuilder 83 5 w.heap.size w.heap.size _ w4 from .inr hb4)
            have Hbl4 := Lib.hid hbl4
            clear CT hb4 hbl4 hok4
            go_wp2
            go_roundw
            case rel =>
              refine ⟨k + 1, hlt, by push_cast; rfl, Hall, ?_, HbW.out.trans (Hbl3.out.trans Hbl4.out)⟩
              rw [Hout.out, byteCells_append, byteCells_append, ← cells_bytes]
              exact Hb4
            case measure => simp [intOf]; omega
    · have hks : k = l.length := by omega
      subst hks
      have HL := Lib.hid (outK_len sep l _ (Nat.le_refl _) hall.out)
      have HA : Hid (l.all checkB = true) := List.all_eq_true.2 fun x hx => by
        obtain ⟨i, hi, rfl⟩ := List.mem_iff_getElem.1 hx
        exact hall.out i hi hi
      go_wp2_with fail
      refine (Try.Builder_Len _ _ _ _ hbd.out).mono ?_
      rintro e w2 ⟨rfl, rfl⟩
      rw [byteCells_len]
      obtain ⟨O, hO⟩ : ∃ O, outK sep l l.length = O := ⟨_, rfl⟩
      have HO := Lib.hid hO
      rw [hO] at hbd HL ⊢
      clear hO
      by_cases hbig : 20000 < O.length
      · have hbig' : (20000 : Int) < (O.length : Int) := by omega
        have HR : Hid (wroteB sep l = []) := by unfold wroteB; rw [if_neg h6, if_pos HA.out, HO.out, if_pos hbig]; exact Lib.hid rfl
        go_wp2
        go_ret
        exact ⟨by rw [HR.out]; rfl, hbl.out⟩
      · have hbig' : ¬ ((20000 : Int) < (O.length : Int)) := by omega
        have HR : Hid (wroteB sep l = O) := by unfold wroteB; rw [if_neg h6, if_pos HA.out, HO.out, if_neg hbig]; exact Lib.hid rfl
        go_wp2_with fail
        refine (Try.Builder_String_any _ _ _ _ hbd.out hsz).mono ?_
        rintro e w3 ⟨rfl, hb3⟩
        have Hb3 := Lib.hid hb3
        clear hb3
        go_wp2
        go_ret
        exact ⟨by rw [HR.out]; rfl, hbl.out.trans Hb3.out⟩
end Go.Proofs.Ytihbecfjgdlebaa
